/- What the document's own Decode answers. -/
import Derived.Test.YtlodbkjjkhpbaaaEnDec2
import Derived.Test.YtlodbkjjkhpbaaaSame
namespace Go.Proofs.Ytlodbkjjkhpbaaa
open Go.RowKit
set_option linter.unusedVariables false

/-- an entry that the document's own Decode reads -/
structure DF (w0 : World) (gr gE : Nat) (E : En) (a : Option Addr) (n c : Nat) (wr : World) : Prop where
  en : EnB wr gE E a n c
  own : wr.ownsRow (gE + 1) 3 1 (.slice a n c) n (E.o.flatMap ivC)
  res : NV 28 69 gr gr wr
  low : Below w0.heap.size w0 wr
  ge : w0.heap.size ≤ gr
  lt2 : gr < gE
section
variable {w0 wr w' : World} {gr gE : Nat} {E E' : En} {a a' : Option Addr} {n n' c c' : Nat}
set_option maxRecDepth 100000 in
theorem DF.own_ge (h : DF w0 gr gE E a n c wr) : ∀ j, (Value.slice a n c).ownBlock = some j → gE + 1 ≤ j := fun j hj => (h.own.lt j hj).1
set_option maxRecDepth 100000 in
theorem DF.below (h : DF w0 gr gE E a n c wr) (hb : Below wr.heap.size wr w') : DF w0 gr gE E a n c w' := ⟨h.en.below hb, owns_below h.own hb, h.res.step hb, bstep h.low hb, h.ge, h.lt2⟩
set_option maxRecDepth 100000 in
theorem DF.drew (h : DF w0 gr gE E a n c wr) : DF w0 gr gE E a n c wr.drew := h.below ⟨rfl, rfl, rfl, Nat.le_refl _, fun _ _ => rfl⟩
set_option maxRecDepth 100000 in
theorem DF.put (h : DF w0 gr gE E a n c wr) {o : Nat} {x : Value} (hE : EnB (wr.setCell ⟨gE, o, none⟩ x) gE E' a n c) (ho : E'.o = E.o) : DF w0 gr gE E' a n c (wr.setCell ⟨gE, o, none⟩ x) := by
  have l2 := h.lt2
  have l3 := h.ge
  obtain ⟨cs, e1, e2⟩ := h.res.row
  exact ⟨hE, by rw [ho]; exact owns_setCells (vs := [x]) h.own (fun k hk => by have := h.own_ge k hk; omega), ⟨h.res.ge, cs, e1, (heap_setCell_other wr ⟨gE, o, none⟩ gr _ (by show gr ≠ gE; omega)).trans e2⟩, h.low.setCell (p := ⟨gE, o, none⟩) (by show w0.heap.size ≤ gE; omega) _, l3, l2⟩
set_option maxRecDepth 100000 in
theorem DF.more (h : DF w0 gr gE E a n c wr) {w1 : World} {x : Int} {o' : List Int} (ho' : E.o ++ [x] = o') {a' : Option Addr} {n' c' : Nat} (hb : Below (gE + 1) wr w1) (ho : w1.ownsRow (gE + 1) 3 1 (.slice a' n' c') n' (o'.flatMap ivC)) :
    DF w0 gr gE ⟨E.j, E.t, E.H, E.S, E.k, E.r, o'⟩ a' n' c' (w1.setCell ⟨gE, 67, none⟩ (.slice a' n' c')) := by
  have l2 := h.lt2
  have l3 := h.ge
  obtain ⟨cs, e1, e2⟩ := h.res.row
  have hE1 : EnB w1 gE E a n c := h.en.keep (hb.block gE (by omega))
  refine ⟨hE1.setO a' n' c' o', ?_, ⟨h.res.ge, cs, e1, (heap_setCell_other w1 ⟨gE, 67, none⟩ gr _ (by show gr ≠ gE; omega)).trans ((hb.block gr (by omega)).trans e2)⟩, (h.low.trans (hb.mono (by omega))).setCell (p := ⟨gE, 67, none⟩) (by show w0.heap.size ≤ gE; omega) _, l3, l2⟩
  exact owns_setCells (vs := [.slice a' n' c']) ho (fun k hk => by have := (ho.lt k hk).1; omega)
end
set_option maxRecDepth 100000 in
theorem cell_other {b g : Nat} (h : b ≠ g) (w : World) (o : Nat) (v : Value) (i : Nat) : (w.setCell ⟨g, o, none⟩ v).cell? ⟨b, i, none⟩ = w.cell? ⟨b, i, none⟩ := World.cell?_of_block (heap_setCell_other w ⟨g, o, none⟩ b v h)
/-- the first bytes, and noughts -/
def half (t : List Int) (m : Nat) : List Int := t.take m ++ List.replicate (32 - m) 0
set_option maxRecDepth 100000 in
theorem half_zero (t : List Int) : half t 0 = dg0 := rfl
set_option maxRecDepth 100000 in
theorem half_all (t : List Int) : half t 32 = t.take 32 := by unfold half; simp
set_option maxRecDepth 100000 in
theorem half_set {t : List Int} {m : Nat} (hm : m < 32) (ht : 32 ≤ t.length) : (half t m).set m (t.getD m 0) = half t (m + 1) := by
  unfold half
  rw [List.set_append_right _ _ (by rw [List.length_take]; omega), List.length_take, show m - min m t.length = 0 from by omega, show 32 - m = 32 - (m + 1) + 1 from by omega, List.replicate_succ, List.set_cons_zero, take_succ_getD t m (by omega), List.append_assoc]
  rfl
set_option maxRecDepth 100000 in
theorem decN_same {b : List Int} {E : En} (h : rdN b = some E) (hc : canN E = true) (he : enL E = b) : decN b = (E, 0) := by rw [decN_some h, if_pos ⟨hc, he⟩]
set_option maxRecDepth 100000 in
theorem decN_other {b : List Int} {E : En} (h : rdN b = some E) (hc : ¬ (canN E = true ∧ enL E = b)) : decN b = (en0, 4) := by rw [decN_some h, if_neg hc]
set_option maxHeartbeats 8000000 in
set_option maxRecDepth 100000 in
theorem refdecode20_any (a : Option Addr) (len cap : Nat) (b : List Int) (w : World) (h : Bts w a len cap b) (hlen : len ≤ 100000) :
    Calls Try.prog 11 #[.slice a len cap] w (DcP b w) := by
  obtain ⟨gr, HGR⟩ : ∃ gr, Bx (gr = w.heap.size) := ⟨_, ⟨rfl⟩⟩
  have H := Bx.mk h
  have HBY := Bx.mk h.byt
  have HLEN : Bx (b.length = len) := ⟨h.len_eq⟩
  have hlc := h.le_cap
  have hcm := h.cap_le
  unfold maxLen at hcm
  obtain ⟨i0, hi, hz0, hz1, hz2⟩ := info_parts Try.infoI3
  have hzv := en0_run
  have HB1 : Bx (Below w.heap.size w (w.alloc (.cells (enA en0 none 0 0) 28))) := ⟨(Below.refl _ _).alloc (Nat.le_refl _) _⟩
  have HV1 : Bx (NV 28 69 w.heap.size w.heap.size (w.alloc (.cells (enA en0 none 0 0) 28))) := ⟨NV.new (Nat.le_refl _) (enA_size en0_dig)⟩
  clear h
  go_enter Try.func11, Try.ntmps11
  go_upto_region 1 with fail
  generalize w.alloc (.cells (enA en0 none 0 0) 28) = wa at HV1 HB1 ⊢
  rw [← HGR.out] at HV1 ⊢
  obtain ⟨gE, HGE⟩ : ∃ gE, Bx (gE = wa.heap.size) := ⟨_, ⟨rfl⟩⟩
  have hev := en_var wa (e := en0) (a := none) (n := 0) (c := 0) en0_dig
  have HET := Bx.mk hev.2.2
  have HDF : Bx (DF w gr gE en0 none 0 0 ((wa.alloc (.cells (enA en0 none 0 0) 28)).setCells wa.heap.size 0 (enA en0 none 0 0).toList)) := ⟨⟨by rw [HGE.out]; exact hev.1, World.ownsRow_nil _ _ _ _, HV1.out.step hev.2.1, bstep HB1.out hev.2.1, by rw [HGR.out]; exact Nat.le_refl _, by rw [HGE.out]; exact HV1.out.lt⟩⟩
  clear hev
  go_upto_region 2 with (refine wpList_store_mid rfl 28 (.tmp 4) (.tmp 19) rfl wa.heap.size 0 (enA en0 none 0 0) rfl rfl HET.out (enA_info en0_dig) enA_one ?_)
  generalize (wa.alloc (.cells (enA en0 none 0 0) 28)).setCells wa.heap.size 0 (enA en0 none 0 0).toList = wb at HDF HET ⊢
  rw [← HGE.out]
  clear HET HV1 HB1 HGE
  -- two numbers
  have HW := Bx.mk (H.out.below HDF.out.low)
  have HKB := Bx.mk (rdn_bd HBY.out)
  have HUB := Bx.mk (rd_bd b 0 0 HBY.out (by omega) (by omega) (by decide))
  go_wp2_with fail
  refine (refreadvar_any a len cap b _ HW.out).mono ?_
  rintro e wz ⟨rfl, hwz⟩
  subst hwz
  unfold rdVal
  obtain ⟨n1, HN1⟩ : ∃ n1, Bx (rdn b = n1) := ⟨_, ⟨rfl⟩⟩
  rw [HKB.out.2, HN1.out]
  have hn1 : n1 ≤ len := by have h1 := HKB.out.1; rw [HN1.out, HLEN.out] at h1; exact h1
  obtain ⟨u1, HU1⟩ : ∃ u1 : Nat, Bx ((rd b 0 0).1 = (u1 : Int)) := ⟨(rd b 0 0).1.toNat, ⟨by have := HUB.out.1; omega⟩⟩
  obtain ⟨f1, HF1⟩ : ∃ f1, Bx ((rd b 0 0).2.2 = f1) := ⟨_, ⟨rfl⟩⟩
  rw [HU1.out, HF1.out]
  have hu1 : (u1 : Int) ≤ 18446744073709551615 := by rw [← HU1.out]; exact HUB.out.2
  have hsl := run_sl_l a len cap n1 (n1 : Int) rfl hn1
  have HL1 := Bx.mk (HW.out.rest n1 hn1)
  generalize slA a n1 cap = a1 at hsl HL1
  have HBY1 : Bx (Byt (b.drop n1)) := ⟨HL1.out.byt⟩
  clear HKB HUB
  have HKB := Bx.mk (rdn_bd HBY1.out)
  have HUB := Bx.mk (rd_bd (b.drop n1) 0 0 HBY1.out (by omega) (by omega) (by decide))
  go_wp2_with fail
  refine (refreadvar_any a1 (len - n1) (cap - n1) (b.drop n1) _ HL1.out).mono ?_
  rintro e wz ⟨rfl, hwz⟩
  subst hwz
  unfold rdVal
  obtain ⟨n2, HN2⟩ : ∃ n2, Bx (rdn (b.drop n1) = n2) := ⟨_, ⟨rfl⟩⟩
  rw [HKB.out.2, HN2.out]
  have hn2 : n1 + n2 ≤ len := by have h1 := HKB.out.1; rw [HN2.out, List.length_drop, HLEN.out] at h1; omega
  obtain ⟨u2, HU2⟩ : ∃ u2 : Nat, Bx ((rd (b.drop n1) 0 0).1 = (u2 : Int)) := ⟨(rd (b.drop n1) 0 0).1.toNat, ⟨by have := HUB.out.1; omega⟩⟩
  obtain ⟨f2, HF2⟩ : ∃ f2, Bx ((rd (b.drop n1) 0 0).2.2 = f2) := ⟨_, ⟨rfl⟩⟩
  rw [HU2.out, HF2.out]
  have hu2 : (u2 : Int) ≤ 18446744073709551615 := by rw [← HU2.out]; exact HUB.out.2
  obtain ⟨p, HP⟩ : ∃ p, Bx (n1 + n2 = p) := ⟨_, ⟨rfl⟩⟩
  have hpI : (n1 : Int) + (n2 : Int) = (p : Int) := by have := HP.out; omega
  have hpl : p ≤ len := by rw [← HP.out]; exact hn2
  have HN : Bx (f1 ≠ 0 ∨ f2 ≠ 0 ∨ 63 < (u1 : Int) ∨ 1099511627776 < (u2 : Int) ∨ len < p + 65 → decN b = (en0, 4)) := ⟨fun hh => by
    apply decN_no1
    rw [HN1.out, HN2.out, HP.out, HF1.out, HF2.out, HU1.out, HU2.out, HLEN.out]
    exact hh⟩
  clear HKB HUB hsl HL1 HBY1 hn2
  go_upto_region 5 with fail
  clear hpI hn1
  by_cases c1 : f1 ≠ 0
  · have HNO : Bx (decN b = (en0, 4)) := ⟨HN.out (.inl c1)⟩
    have hq : (f1 != 0) = true := by simpa using c1
    clear c1
    have HTH : Bx (wb.there gr 0 (enA en0 none 0 0).size) := ⟨HDF.out.res.en_there en0_dig⟩
    have HSE : Bx (EnB (wb.setCells gr 0 (enA en0 none 0 0).toList) gr en0 none 0 0) := ⟨HDF.out.res.en en0_dig⟩
    have HBF : Bx (Below w.heap.size w (wb.setCells gr 0 (enA en0 none 0 0).toList)) := ⟨below_setCells HDF.out.low gr HDF.out.ge _ _⟩
    clear HDF
    go_wp2_with (refine wpList_store_mid rfl 28 (.tmp 2) (.tmp 58) rfl gr 0 (enA en0 none 0 0) rfl rfl HTH.out (enA_info en0_dig) enA_one ?_)
    exact bodyPost_ret (v := .tuple #[.agg (enA en0 none 0 0), .int .i64 4]) (results_ce rfl _ _ gr en0 none 0 0 _ rfl rfl HSE.out) rfl (dcp_no HNO.out HBF.out)
  obtain rfl : f1 = 0 := Decidable.not_not.1 c1
  clear c1
  by_cases c2 : f2 ≠ 0
  · have HNO : Bx (decN b = (en0, 4)) := ⟨HN.out (.inr (.inl c2))⟩
    have hq : (f2 != 0) = true := by simpa using c2
    clear c2
    have HTH : Bx (wb.there gr 0 (enA en0 none 0 0).size) := ⟨HDF.out.res.en_there en0_dig⟩
    have HSE : Bx (EnB (wb.setCells gr 0 (enA en0 none 0 0).toList) gr en0 none 0 0) := ⟨HDF.out.res.en en0_dig⟩
    have HBF : Bx (Below w.heap.size w (wb.setCells gr 0 (enA en0 none 0 0).toList)) := ⟨below_setCells HDF.out.low gr HDF.out.ge _ _⟩
    clear HDF
    go_wp2_with (refine wpList_store_mid rfl 28 (.tmp 2) (.tmp 58) rfl gr 0 (enA en0 none 0 0) rfl rfl HTH.out (enA_info en0_dig) enA_one ?_)
    exact bodyPost_ret (v := .tuple #[.agg (enA en0 none 0 0), .int .i64 4]) (results_ce rfl _ _ gr en0 none 0 0 _ rfl rfl HSE.out) rfl (dcp_no HNO.out HBF.out)
  obtain rfl : f2 = 0 := Decidable.not_not.1 c2
  clear c2
  by_cases c3 : 63 < u1
  · have HNO : Bx (decN b = (en0, 4)) := ⟨HN.out (.inr (.inr (.inl (by omega))))⟩
    have hq : (63 : Int) < (u1 : Int) := by omega
    have HTH : Bx (wb.there gr 0 (enA en0 none 0 0).size) := ⟨HDF.out.res.en_there en0_dig⟩
    have HSE : Bx (EnB (wb.setCells gr 0 (enA en0 none 0 0).toList) gr en0 none 0 0) := ⟨HDF.out.res.en en0_dig⟩
    have HBF : Bx (Below w.heap.size w (wb.setCells gr 0 (enA en0 none 0 0).toList)) := ⟨below_setCells HDF.out.low gr HDF.out.ge _ _⟩
    clear HDF
    go_wp2_with (refine wpList_store_mid rfl 28 (.tmp 2) (.tmp 58) rfl gr 0 (enA en0 none 0 0) rfl rfl HTH.out (enA_info en0_dig) enA_one ?_)
    exact bodyPost_ret (v := .tuple #[.agg (enA en0 none 0 0), .int .i64 4]) (results_ce rfl _ _ gr en0 none 0 0 _ rfl rfl HSE.out) rfl (dcp_no HNO.out HBF.out)
  have c3I : ¬ (63 : Int) < (u1 : Int) := by omega
  by_cases c4 : 1099511627776 < u2
  · have HNO : Bx (decN b = (en0, 4)) := ⟨HN.out (.inr (.inr (.inr (.inl (by omega)))))⟩
    have hq : (1099511627776 : Int) < (u2 : Int) := by omega
    have HTH : Bx (wb.there gr 0 (enA en0 none 0 0).size) := ⟨HDF.out.res.en_there en0_dig⟩
    have HSE : Bx (EnB (wb.setCells gr 0 (enA en0 none 0 0).toList) gr en0 none 0 0) := ⟨HDF.out.res.en en0_dig⟩
    have HBF : Bx (Below w.heap.size w (wb.setCells gr 0 (enA en0 none 0 0).toList)) := ⟨below_setCells HDF.out.low gr HDF.out.ge _ _⟩
    clear HDF
    go_wp2_with (refine wpList_store_mid rfl 28 (.tmp 2) (.tmp 58) rfl gr 0 (enA en0 none 0 0) rfl rfl HTH.out (enA_info en0_dig) enA_one ?_)
    exact bodyPost_ret (v := .tuple #[.agg (enA en0 none 0 0), .int .i64 4]) (results_ce rfl _ _ gr en0 none 0 0 _ rfl rfl HSE.out) rfl (dcp_no HNO.out HBF.out)
  have c4I : ¬ (1099511627776 : Int) < (u2 : Int) := by omega
  by_cases c5 : len < p + 65
  · have HNO : Bx (decN b = (en0, 4)) := ⟨HN.out (.inr (.inr (.inr (.inr c5))))⟩
    have hq : (len : Int) < (p : Int) + 65 := by omega
    have HTH : Bx (wb.there gr 0 (enA en0 none 0 0).size) := ⟨HDF.out.res.en_there en0_dig⟩
    have HSE : Bx (EnB (wb.setCells gr 0 (enA en0 none 0 0).toList) gr en0 none 0 0) := ⟨HDF.out.res.en en0_dig⟩
    have HBF : Bx (Below w.heap.size w (wb.setCells gr 0 (enA en0 none 0 0).toList)) := ⟨below_setCells HDF.out.low gr HDF.out.ge _ _⟩
    clear HDF
    go_wp2_with (refine wpList_store_mid rfl 28 (.tmp 2) (.tmp 58) rfl gr 0 (enA en0 none 0 0) rfl rfl HTH.out (enA_info en0_dig) enA_one ?_)
    exact bodyPost_ret (v := .tuple #[.agg (enA en0 none 0 0), .int .i64 4]) (results_ce rfl _ _ gr en0 none 0 0 _ rfl rfl HSE.out) rfl (dcp_no HNO.out HBF.out)
  have c5I : ¬ (len : Int) < (p : Int) + 65 := by omega
  have y0 := HDF.out.en.c0
  have y1 := HDF.out.en.c1
  have z0 := HDF.out.en.fr 0
  have z1 := HDF.out.en.fr 1
  have hD1 := HDF.out.put (HDF.out.en.setJ (u1 : Int)) rfl
  have HD2 := Bx.mk (hD1.put (hD1.en.setT (u2 : Int)) rfl)
  clear hD1 HN
  go_upto_region 8 with fail
  generalize (wb.setCell ⟨gE, 0, none⟩ (.int .i64 (u1 : Int))).setCell ⟨gE, 1, none⟩ (.int .i64 (u2 : Int)) = w5 at HD2 ⊢
  simp only at HD2
  clear y0 y1 z0 z1 HDF HW c3I c4I c5I
  obtain ⟨bb, off, rfl, hbl, hcc⟩ := H.out.spot (by omega)
  have HCC := Bx.mk hcc
  have HBL0 := Bx.mk hbl
  clear hcc hbl
  have HNE : Bx (bb ≠ gE) := ⟨by have h1 := HBL0.out; have h2 := HD2.out.ge; have h3 := HD2.out.lt2; omega⟩
  have HBL : Bx (bb < gE + 1) := ⟨by have h1 := HBL0.out; have h2 := HD2.out.ge; have h3 := HD2.out.lt2; omega⟩
  go_wp2_with fail
  go_loopw [12] (fun i wr => ∃ m : Nat, m ≤ 32 ∧ i = .int .i64 m ∧ Bx (DF w gr gE ⟨(u1 : Int), (u2 : Int), half (b.drop p) m, half (b.drop (p + 32)) m, 0, 0, []⟩ none 0 0 wr)) (fun i _ => 32 - (intOf i).toNat)
  case atStart => exact ⟨0, Nat.zero_le _, rfl, HD2⟩
  case round =>
    clear HD2
    obtain ⟨m, hm, rfl, HD⟩ := hrel
    by_cases hm32 : m < 32
    · have hmI : (m : Int) < 32 := by omega
      obtain ⟨q1, HQ1⟩ : ∃ q1, Bx (q1 = p + m) := ⟨_, ⟨rfl⟩⟩
      obtain ⟨q0, HQ0⟩ : ∃ q0, Bx (q0 = p + 32) := ⟨_, ⟨rfl⟩⟩
      obtain ⟨q2, HQ2⟩ : ∃ q2, Bx (q2 = p + 32 + m) := ⟨_, ⟨rfl⟩⟩
      have hq1 := HQ1.out
      have hq0 := HQ0.out
      have hq2 := HQ2.out
      have w1 : IntKind.i64.wrap ((p : Int) + (m : Int)) = (q1 : Int) := by rw [IntWalk.i64_in _ (by omega)]; omega
      have w0 : IntKind.i64.wrap ((p : Int) + 32) = (q0 : Int) := by rw [IntWalk.i64_in _ (by omega)]; omega
      have w2 : IntKind.i64.wrap ((q0 : Int) + (m : Int)) = (q2 : Int) := by rw [IntWalk.i64_in _ (by omega)]; omega
      have l1 : (q1 : Int) < (len : Int) := by omega
      have l2 : (q2 : Int) < (len : Int) := by omega
      have x1 : w.cell? ⟨bb, off + q1, none⟩ = some (.int .u8 (b.getD q1 0)) := HCC.out q1 (by omega)
      have x2 : w.cell? ⟨bb, off + q2, none⟩ = some (.int .u8 (b.getD q2 0)) := HCC.out q2 (by omega)
      have HXB := Bx.mk (HBY.out.getD q1)
      have HYB := Bx.mk (HBY.out.getD q2)
      have HGX : Bx ((b.drop p).getD m 0 = b.getD q1 0) := ⟨by rw [hq1, List.getD_eq_getElem?_getD, List.getElem?_drop, ← List.getD_eq_getElem?_getD]⟩
      have HGY : Bx ((b.drop (p + 32)).getD m 0 = b.getD q2 0) := ⟨by rw [hq2, List.getD_eq_getElem?_getD, List.getElem?_drop, ← List.getD_eq_getElem?_getD]⟩
      have HHX := Bx.mk (half_set (t := b.drop p) hm32 (by rw [List.length_drop, HLEN.out]; omega))
      have HHY := Bx.mk (half_set (t := b.drop (p + 32)) hm32 (by rw [List.length_drop, HLEN.out]; omega))
      rw [HGX.out] at HHX
      rw [HGY.out] at HHY
      generalize b.getD q1 0 = X at x1 HXB HHX HGX
      generalize b.getD q2 0 = Y at x2 HYB HHY HGY
      have hE := HD.out.drew
      have hL : bb < wr.drew.heap.size := Nat.lt_of_lt_of_le HBL0.out hE.low.size
      have hk : wr.drew.cell? ⟨bb, off + q1, none⟩ = some (.int .u8 X) ∧ wr.drew.cell? ⟨bb, off + q2, none⟩ = some (.int .u8 Y) := ⟨(hE.low.cell (p := ⟨bb, off + q1, none⟩) HBL0.out).trans x1, (hE.low.cell (p := ⟨bb, off + q2, none⟩) HBL0.out).trans x2⟩
      clear hq1 hq0 hq2 x1 x2 HQ1 HQ0 HQ2 HGX HGY HD
      go_upto_region 11 with fail
      refine wp_region_held_drew (S := fun W => W.cell? ⟨bb, off + q1, none⟩ = some (.int .u8 X) ∧ W.cell? ⟨bb, off + q2, none⟩ = some (.int .u8 Y)) (by kernel_rfl) hk (fun _ => ?_)
      generalize wr.drew = wd at hk hE hL ⊢
      have y0 := hE.en.cH m hm32
      have z0 := hE.en.fr (2 + m)
      refine wpAnyH_take (i := 0) (oi := { dst := some 69, op := Op.move (Operand.tmp 12), type := 3, pos := "ref.go:74", after := #[], guard := none }) (v := ?vrde111) rfl (by kernel_rfl) (by kernel_rfl) (by kernel_rfl) (fun _ _ _ h => h) (Or.inl ⟨by rfl, ?yrde111⟩) hk ?rrde111
      case yrde111 => (intro w hSw; (try dsimp only at hSw); go_simp; first | done | with_reducible rfl)
      simp only [Act.put, List.setIfInBounds_toArray, List.set_cons_zero, List.set_cons_succ]
      refine wpAnyH_take (i := 1) (oi := { dst := some 70, op := Op.move (Operand.tmp 12), type := 3, pos := "ref.go:74", after := #[{ on := 17, ground := Ground.gcOnly Departure.lateStores }], guard := none }) (v := ?vrde112) rfl (by kernel_rfl) (by kernel_rfl) (by kernel_rfl) (fun _ _ _ h => h) (Or.inl ⟨by rfl, ?yrde112⟩) hk ?rrde112
      case yrde112 => (intro w hSw; (try dsimp only at hSw); go_simp; first | done | with_reducible rfl)
      simp only [Act.put, List.setIfInBounds_toArray, List.set_cons_zero, List.set_cons_succ]
      refine wpAnyH_take (i := 2) (oi := { dst := some 71, op := Op.move (Operand.tmp 0), type := 29, pos := "ref.go:74", after := #[], guard := none }) (v := ?vrde113) rfl (by kernel_rfl) (by kernel_rfl) (by kernel_rfl) (fun _ _ _ h => h) (Or.inl ⟨by rfl, ?yrde113⟩) hk ?rrde113
      case yrde113 => (intro w hSw; (try dsimp only at hSw); go_simp; first | done | with_reducible rfl)
      simp only [Act.put, List.setIfInBounds_toArray, List.set_cons_zero, List.set_cons_succ]
      refine wpAnyH_take (i := 3) (oi := { dst := some 72, op := Op.move (Operand.tmp 11), type := 3, pos := "ref.go:74", after := #[], guard := none }) (v := ?vrde114) rfl (by kernel_rfl) (by kernel_rfl) (by kernel_rfl) (fun _ _ _ h => h) (Or.inl ⟨by rfl, ?yrde114⟩) hk ?rrde114
      case yrde114 => (intro w hSw; (try dsimp only at hSw); go_simp; first | done | with_reducible rfl)
      simp only [Act.put, List.setIfInBounds_toArray, List.set_cons_zero, List.set_cons_succ]
      refine wpAnyH_take (i := 4) (oi := { dst := some 73, op := Op.move (Operand.tmp 12), type := 3, pos := "ref.go:74", after := #[], guard := none }) (v := ?vrde115) rfl (by kernel_rfl) (by kernel_rfl) (by kernel_rfl) (fun _ _ _ h => h) (Or.inl ⟨by rfl, ?yrde115⟩) hk ?rrde115
      case yrde115 => (intro w hSw; (try dsimp only at hSw); go_simp; first | done | with_reducible rfl)
      simp only [Act.put, List.setIfInBounds_toArray, List.set_cons_zero, List.set_cons_succ]
      refine wpAnyH_take (i := 5) (oi := { dst := some 74, op := Op.binOp BinOp.add 3 (Operand.tmp 72) (Operand.tmp 73) 3, type := 3, pos := "ref.go:74", after := #[{ on := 3, ground := Ground.data }, { on := 4, ground := Ground.data }], guard := none }) (v := ?vrde116) rfl (by kernel_rfl) (by kernel_rfl) (by kernel_rfl) (fun _ _ _ h => h) (Or.inl ⟨by rfl, ?yrde116⟩) hk ?rrde116
      case yrde116 => (intro w hSw; (try dsimp only at hSw); go_simp; first | done | with_reducible rfl)
      simp only [Act.put, List.setIfInBounds_toArray, List.set_cons_zero, List.set_cons_succ]
      refine wpAnyH_take (i := 6) (oi := { dst := some 75, op := Op.indexAddr 29 (Operand.tmp 71) (Operand.tmp 74), type := 0, pos := "ref.go:74", after := #[{ on := 2, ground := Ground.data }, { on := 5, ground := Ground.data }], guard := none }) (v := ?vrde117) rfl (by kernel_rfl) (by kernel_rfl) (by kernel_rfl) (fun _ _ _ h => h) (Or.inl ⟨by rfl, ?yrde117⟩) hk ?rrde117
      case yrde117 => (intro w hSw; (try dsimp only at hSw); go_simp; first | done | with_reducible rfl)
      simp only [Act.put, List.setIfInBounds_toArray, List.set_cons_zero, List.set_cons_succ]
      refine wpAnyH_take (i := 7) (oi := { dst := some 76, op := Op.load 5 (Operand.tmp 75), type := 5, pos := "ref.go:74", after := #[{ on := 6, ground := Ground.data }], guard := none }) (v := ?vrde118) rfl (by kernel_rfl) (by kernel_rfl) (by kernel_rfl) (fun _ _ _ h => h) (Or.inl ⟨by rfl, ?yrde118⟩) hk ?rrde118
      case yrde118 => (intro w hSw; have hcw := hSw.1; clear hSw; go_simp; first | done | with_reducible rfl)
      simp only [Act.put, List.setIfInBounds_toArray, List.set_cons_zero, List.set_cons_succ]
      refine wpAnyH_take (i := 8) (oi := { dst := some 77, op := Op.move (Operand.tmp 0), type := 29, pos := "ref.go:74", after := #[{ on := 17, ground := Ground.gcOnly Departure.lateStores }], guard := none }) (v := ?vrde119) rfl (by kernel_rfl) (by kernel_rfl) (by kernel_rfl) (fun _ _ _ h => h) (Or.inl ⟨by rfl, ?yrde119⟩) hk ?rrde119
      case yrde119 => (intro w hSw; (try dsimp only at hSw); go_simp; first | done | with_reducible rfl)
      simp only [Act.put, List.setIfInBounds_toArray, List.set_cons_zero, List.set_cons_succ]
      refine wpAnyH_take (i := 9) (oi := { dst := some 78, op := Op.move (Operand.tmp 11), type := 3, pos := "ref.go:74", after := #[{ on := 17, ground := Ground.gcOnly Departure.lateStores }], guard := none }) (v := ?vrde1110) rfl (by kernel_rfl) (by kernel_rfl) (by kernel_rfl) (fun _ _ _ h => h) (Or.inl ⟨by rfl, ?yrde1110⟩) hk ?rrde1110
      case yrde1110 => (intro w hSw; (try dsimp only at hSw); go_simp; first | done | with_reducible rfl)
      simp only [Act.put, List.setIfInBounds_toArray, List.set_cons_zero, List.set_cons_succ]
      refine wpAnyH_take (i := 10) (oi := { dst := some 79, op := Op.binOp BinOp.add 3 (Operand.tmp 78) (Operand.const (Value.int IntKind.i64 32)) 3, type := 3, pos := "ref.go:74", after := #[{ on := 9, ground := Ground.data }, { on := 17, ground := Ground.gcOnly Departure.lateStores }], guard := none }) (v := ?vrde1111) rfl (by kernel_rfl) (by kernel_rfl) (by kernel_rfl) (fun _ _ _ h => h) (Or.inl ⟨by rfl, ?yrde1111⟩) hk ?rrde1111
      case yrde1111 => (intro w hSw; (try dsimp only at hSw); go_simp; first | done | with_reducible rfl)
      simp only [Act.put, List.setIfInBounds_toArray, List.set_cons_zero, List.set_cons_succ]
      refine wpAnyH_take (i := 11) (oi := { dst := some 80, op := Op.move (Operand.tmp 12), type := 3, pos := "ref.go:74", after := #[{ on := 17, ground := Ground.gcOnly Departure.lateStores }], guard := none }) (v := ?vrde1112) rfl (by kernel_rfl) (by kernel_rfl) (by kernel_rfl) (fun _ _ _ h => h) (Or.inl ⟨by rfl, ?yrde1112⟩) hk ?rrde1112
      case yrde1112 => (intro w hSw; (try dsimp only at hSw); go_simp; first | done | with_reducible rfl)
      simp only [Act.put, List.setIfInBounds_toArray, List.set_cons_zero, List.set_cons_succ]
      refine wpAnyH_take (i := 12) (oi := { dst := some 81, op := Op.binOp BinOp.add 3 (Operand.tmp 79) (Operand.tmp 80) 3, type := 3, pos := "ref.go:74", after := #[{ on := 10, ground := Ground.data }, { on := 11, ground := Ground.data }, { on := 17, ground := Ground.gcOnly Departure.lateStores }], guard := none }) (v := ?vrde1113) rfl (by kernel_rfl) (by kernel_rfl) (by kernel_rfl) (fun _ _ _ h => h) (Or.inl ⟨by rfl, ?yrde1113⟩) hk ?rrde1113
      case yrde1113 => (intro w hSw; (try dsimp only at hSw); go_simp; first | done | with_reducible rfl)
      simp only [Act.put, List.setIfInBounds_toArray, List.set_cons_zero, List.set_cons_succ]
      refine wpAnyH_take (i := 13) (oi := { dst := some 82, op := Op.indexAddr 29 (Operand.tmp 77) (Operand.tmp 81), type := 0, pos := "ref.go:74", after := #[{ on := 8, ground := Ground.data }, { on := 12, ground := Ground.data }, { on := 17, ground := Ground.gcOnly Departure.lateStores }], guard := none }) (v := ?vrde1114) rfl (by kernel_rfl) (by kernel_rfl) (by kernel_rfl) (fun _ _ _ h => h) (Or.inl ⟨by rfl, ?yrde1114⟩) hk ?rrde1114
      case yrde1114 => (intro w hSw; (try dsimp only at hSw); go_simp; first | done | with_reducible rfl)
      simp only [Act.put, List.setIfInBounds_toArray, List.set_cons_zero, List.set_cons_succ]
      refine wpAnyH_take (i := 14) (oi := { dst := some 83, op := Op.load 5 (Operand.tmp 82), type := 5, pos := "ref.go:74", after := #[{ on := 13, ground := Ground.data }, { on := 17, ground := Ground.gcOnly Departure.lateStores }], guard := none }) (v := ?vrde1115) rfl (by kernel_rfl) (by kernel_rfl) (by kernel_rfl) (fun _ _ _ h => h) (Or.inl ⟨by rfl, ?yrde1115⟩) hk ?rrde1115
      case yrde1115 => (intro w hSw; have hcw := hSw.2; clear hSw; go_simp; first | done | with_reducible rfl)
      simp only [Act.put, List.setIfInBounds_toArray, List.set_cons_zero, List.set_cons_succ]
      refine wpAnyH_take (i := 15) (oi := { dst := some 84, op := Op.fieldAddr 28 (Operand.tmp 4) 2, type := 0, pos := "ref.go:74", after := #[], guard := none }) (v := ?vrde1116) rfl (by kernel_rfl) (by kernel_rfl) (by kernel_rfl) (fun _ _ _ h => h) (Or.inl ⟨by rfl, ?yrde1116⟩) hk ?rrde1116
      case yrde1116 => (intro w hSw; (try dsimp only at hSw); go_simp; first | done | with_reducible rfl)
      simp only [Act.put, List.setIfInBounds_toArray, List.set_cons_zero, List.set_cons_succ]
      refine wpAnyH_take (i := 16) (oi := { dst := some 85, op := Op.indexAddr 23 (Operand.tmp 84) (Operand.tmp 69), type := 0, pos := "ref.go:74", after := #[{ on := 15, ground := Ground.data }, { on := 0, ground := Ground.data }, { on := 0, ground := Ground.phase }, { on := 1, ground := Ground.textOnly Departure.lateStores }, { on := 2, ground := Ground.phase }, { on := 3, ground := Ground.phase }, { on := 4, ground := Ground.phase }, { on := 5, ground := Ground.phase }, { on := 6, ground := Ground.phase }, { on := 7, ground := Ground.phase }, { on := 8, ground := Ground.textOnly Departure.lateStores }, { on := 9, ground := Ground.textOnly Departure.lateStores }, { on := 10, ground := Ground.textOnly Departure.lateStores }, { on := 11, ground := Ground.textOnly Departure.lateStores }, { on := 12, ground := Ground.textOnly Departure.lateStores }, { on := 13, ground := Ground.textOnly Departure.lateStores }, { on := 14, ground := Ground.textOnly Departure.lateStores }], guard := none }) (v := ?vrde1117) rfl (by kernel_rfl) (by kernel_rfl) (by kernel_rfl) (fun _ _ _ h => h) (Or.inl ⟨by rfl, ?yrde1117⟩) hk ?rrde1117
      case yrde1117 => (intro w hSw; (try dsimp only at hSw); go_simp; first | done | with_reducible rfl)
      simp only [Act.put, List.setIfInBounds_toArray, List.set_cons_zero, List.set_cons_succ]
      refine wpAnyH_take (i := 18) (oi := { dst := some 86, op := Op.fieldAddr 28 (Operand.tmp 4) 3, type := 0, pos := "ref.go:74", after := #[], guard := none }) (v := ?vrde1118) rfl (by kernel_rfl) (by kernel_rfl) (by kernel_rfl) (fun _ _ _ h => h) (Or.inl ⟨by rfl, ?yrde1118⟩) hk ?rrde1118
      case yrde1118 => (intro w hSw; (try dsimp only at hSw); go_simp; first | done | with_reducible rfl)
      simp only [Act.put, List.setIfInBounds_toArray, List.set_cons_zero, List.set_cons_succ]
      refine wpAnyH_ready (rs := [17]) (by decide +kernel) (by simp) ?_
      refine AllReadyH.cons (o := { dst := none, op := Op.store 5 (Operand.tmp 85) (Operand.tmp 76), type := 0, pos := "ref.go:74", after := #[{ on := 16, ground := Ground.data }, { on := 7, ground := Ground.data }, { on := 0, ground := Ground.phase }, { on := 1, ground := Ground.textOnly Departure.lateStores }, { on := 2, ground := Ground.phase }, { on := 3, ground := Ground.phase }, { on := 4, ground := Ground.phase }, { on := 5, ground := Ground.phase }, { on := 6, ground := Ground.phase }, { on := 7, ground := Ground.phase }, { on := 8, ground := Ground.textOnly Departure.lateStores }, { on := 9, ground := Ground.textOnly Departure.lateStores }, { on := 10, ground := Ground.textOnly Departure.lateStores }, { on := 11, ground := Ground.textOnly Departure.lateStores }, { on := 12, ground := Ground.textOnly Departure.lateStores }, { on := 13, ground := Ground.textOnly Departure.lateStores }, { on := 14, ground := Ground.textOnly Departure.lateStores }], guard := none }) rfl (fun K hK => ?_) AllReadyH.nil
      go_simp
      replace hE := hE.put (hE.en.setHi m hm32 X HXB.out) rfl
      replace hk := And.intro ((cell_other HNE.out wd (2 + m) (.int .u8 X) (off + q1)).trans hk.1) ((cell_other HNE.out wd (2 + m) (.int .u8 X) (off + q2)).trans hk.2)
      clear y0 z0
      generalize wd.setCell ⟨gE, 2 + m, none⟩ (.int .u8 X) = we at hk hE ⊢
      have y1 := hE.en.cS m hm32
      have z1 := hE.en.fr (34 + m)
      refine hK.out _ _ hk (fun _ => ?_)
      clear hK K
      try simp only [Act.put, List.setIfInBounds_toArray, List.set_cons_zero, List.set_cons_succ]
      refine wpAnyH_take (i := 19) (oi := { dst := some 87, op := Op.indexAddr 23 (Operand.tmp 86) (Operand.tmp 70), type := 0, pos := "ref.go:74", after := #[{ on := 18, ground := Ground.data }, { on := 1, ground := Ground.data }, { on := 0, ground := Ground.phase }, { on := 1, ground := Ground.phase }, { on := 2, ground := Ground.phase }, { on := 3, ground := Ground.phase }, { on := 4, ground := Ground.phase }, { on := 5, ground := Ground.phase }, { on := 6, ground := Ground.phase }, { on := 7, ground := Ground.phase }, { on := 8, ground := Ground.phase }, { on := 9, ground := Ground.phase }, { on := 10, ground := Ground.phase }, { on := 11, ground := Ground.phase }, { on := 12, ground := Ground.phase }, { on := 13, ground := Ground.phase }, { on := 14, ground := Ground.phase }, { on := 15, ground := Ground.phase }, { on := 16, ground := Ground.phase }, { on := 17, ground := Ground.phase }], guard := none }) (v := ?vrde1119) rfl (by kernel_rfl) (by kernel_rfl) (by kernel_rfl) (fun _ _ _ h => h) (Or.inl ⟨by rfl, ?yrde1119⟩) hk ?rrde1119
      case yrde1119 => (intro w hSw; (try dsimp only at hSw); go_simp; first | done | with_reducible rfl)
      simp only [Act.put, List.setIfInBounds_toArray, List.set_cons_zero, List.set_cons_succ]
      refine wpAnyH_ready (rs := [20]) (by decide +kernel) (by simp) ?_
      refine AllReadyH.cons (o := { dst := none, op := Op.store 5 (Operand.tmp 87) (Operand.tmp 83), type := 0, pos := "ref.go:74", after := #[{ on := 19, ground := Ground.data }, { on := 14, ground := Ground.data }, { on := 17, ground := Ground.chain }, { on := 0, ground := Ground.phase }, { on := 1, ground := Ground.phase }, { on := 2, ground := Ground.phase }, { on := 3, ground := Ground.phase }, { on := 4, ground := Ground.phase }, { on := 5, ground := Ground.phase }, { on := 6, ground := Ground.phase }, { on := 7, ground := Ground.phase }, { on := 8, ground := Ground.phase }, { on := 9, ground := Ground.phase }, { on := 10, ground := Ground.phase }, { on := 11, ground := Ground.phase }, { on := 12, ground := Ground.phase }, { on := 13, ground := Ground.phase }, { on := 14, ground := Ground.phase }, { on := 15, ground := Ground.phase }, { on := 16, ground := Ground.phase }, { on := 17, ground := Ground.phase }], guard := none }) rfl (fun K hK => ?_) AllReadyH.nil
      go_simp
      replace hE := hE.put (hE.en.setSi m hm32 Y HYB.out) rfl
      replace hk := And.intro ((cell_other HNE.out we (34 + m) (.int .u8 Y) (off + q1)).trans hk.1) ((cell_other HNE.out we (34 + m) (.int .u8 Y) (off + q2)).trans hk.2)
      clear y1 z1
      generalize we.setCell ⟨gE, 34 + m, none⟩ (.int .u8 Y) = wf at hk hE ⊢
      refine hK.out _ _ hk (fun _ => ?_)
      clear hK K
      try simp only [Act.put, List.setIfInBounds_toArray, List.set_cons_zero, List.set_cons_succ]
      refine wpAnyH_done (by decide +kernel) ?_ _
      simp only at hE
      rw [HHX.out, HHY.out] at hE
      have HE := Bx.mk hE
      clear hE hk hL w1 w0 w2 l1 l2 HHX HHY HXB HYB
      go_wp2_with fail
      go_roundw
      case rel => exact ⟨m + 1, by omega, by go_num, HE⟩
      case measure => simp [intOf]; omega
    · obtain rfl : m = 32 := by omega
      rw [half_all, half_all] at HD
      -- the kind
      have hi64 : (p : Int) + 64 < (len : Int) := by omega
      have x64 := (HD.out.low.cell (p := ⟨bb, off + (p + 64), none⟩) HBL0.out).trans (HCC.out (p + 64) (by omega))
      have hb64 := HBY.out.getD (p + 64)
      obtain ⟨kk, HKK⟩ : ∃ kk : Nat, Bx (b.getD (p + 64) 0 = (kk : Int)) := ⟨(b.getD (p + 64) 0).toNat, ⟨by omega⟩⟩
      rw [HKK.out] at x64 hb64
      have hkk : kk ≤ 255 := by omega
      have y6 := HD.out.en.c66
      have z6 := HD.out.en.fr 66
      have HD3 := Bx.mk (HD.out.put (HD.out.en.setK (kk : Int)) rfl)
      clear HD hb64
      go_upto_region 13 with fail
      generalize wr.setCell ⟨gE, 66, none⟩ (.int .i64 (kk : Int)) = w6 at HD3 ⊢
      simp only at HD3
      clear x64 y6 z6 hi64
      -- the tries
      have hsl := run_sl_l (some ⟨bb, off, none⟩) len cap (p + 65) ((p : Int) + 65) (by omega) (by omega)
      have HL3 := Bx.mk ((H.out.rest (p + 65) (by omega)).below HD3.out.low)
      generalize slA (some ⟨bb, off, none⟩) (p + 65) cap = a3 at hsl HL3
      have HBY3 : Bx (Byt (b.drop (p + 65))) := ⟨HL3.out.byt⟩
      have HKB := Bx.mk (rdn_bd HBY3.out)
      have HUB := Bx.mk (rd_bd (b.drop (p + 65)) 0 0 HBY3.out (by omega) (by omega) (by decide))
      go_wp2_with fail
      refine (refreadvar_any a3 (len - (p + 65)) (cap - (p + 65)) (b.drop (p + 65)) _ HL3.out).mono ?_
      rintro e wz ⟨rfl, hwz⟩
      subst hwz
      unfold rdVal
      obtain ⟨n3, HN3⟩ : ∃ n3, Bx (rdn (b.drop (p + 65)) = n3) := ⟨_, ⟨rfl⟩⟩
      rw [HKB.out.2, HN3.out]
      obtain ⟨u3, HU3⟩ : ∃ u3 : Nat, Bx ((rd (b.drop (p + 65)) 0 0).1 = (u3 : Int)) := ⟨(rd (b.drop (p + 65)) 0 0).1.toNat, ⟨by have := HUB.out.1; omega⟩⟩
      obtain ⟨f3, HF3⟩ : ∃ f3, Bx ((rd (b.drop (p + 65)) 0 0).2.2 = f3) := ⟨_, ⟨rfl⟩⟩
      rw [HU3.out, HF3.out]
      have hu3 : (u3 : Int) ≤ 18446744073709551615 := by rw [← HU3.out]; exact HUB.out.2
      have hn3 : p + 65 + n3 ≤ len := by have h1 := HKB.out.1; rw [HN3.out, List.length_drop, HLEN.out] at h1; omega
      obtain ⟨q, HQ⟩ : ∃ q, Bx (p + 65 + n3 = q) := ⟨_, ⟨rfl⟩⟩
      have hqI : (p : Int) + 65 + (n3 : Int) = (q : Int) := by have := HQ.out; omega
      have hql : q ≤ len := by rw [← HQ.out]; exact hn3
      have HN : Bx (f3 ≠ 0 ∨ 1073741824 < (u3 : Int) ∨ len ≤ q → decN b = (en0, 4)) := ⟨fun hh => by
        apply decN_no2 (p := p) (by rw [HN1.out, HN2.out]; exact HP.out)
        rw [HN3.out, HQ.out, HF3.out, HU3.out, HLEN.out]
        exact hh⟩
      clear HKB HUB hsl HL3 HBY3 hn3
      go_upto_region 15 with fail
      clear hqI
      by_cases c1 : f3 ≠ 0
      · have HNO : Bx (decN b = (en0, 4)) := ⟨HN.out (.inl c1)⟩
        have hq : (f3 != 0) = true := by simpa using c1
        clear c1
        have HTH : Bx (w6.there gr 0 (enA en0 none 0 0).size) := ⟨HD3.out.res.en_there en0_dig⟩
        have HSE : Bx (EnB (w6.setCells gr 0 (enA en0 none 0 0).toList) gr en0 none 0 0) := ⟨HD3.out.res.en en0_dig⟩
        have HBF : Bx (Below w.heap.size w (w6.setCells gr 0 (enA en0 none 0 0).toList)) := ⟨below_setCells HD3.out.low gr HD3.out.ge _ _⟩
        clear HD3
        go_wp2_with (refine wpList_store_mid rfl 28 (.tmp 2) (.tmp 121) rfl gr 0 (enA en0 none 0 0) rfl rfl HTH.out (enA_info en0_dig) enA_one ?_)
        exact bodyPost_ret (v := .tuple #[.agg (enA en0 none 0 0), .int .i64 4]) (results_ce rfl _ _ gr en0 none 0 0 _ rfl rfl HSE.out) rfl (dcp_no HNO.out HBF.out)
      obtain rfl : f3 = 0 := Decidable.not_not.1 c1
      clear c1
      by_cases c3 : 1073741824 < u3
      · have HNO : Bx (decN b = (en0, 4)) := ⟨HN.out (.inr (.inl (by omega)))⟩
        have hq : (1073741824 : Int) < (u3 : Int) := by omega
        have HTH : Bx (w6.there gr 0 (enA en0 none 0 0).size) := ⟨HD3.out.res.en_there en0_dig⟩
        have HSE : Bx (EnB (w6.setCells gr 0 (enA en0 none 0 0).toList) gr en0 none 0 0) := ⟨HD3.out.res.en en0_dig⟩
        have HBF : Bx (Below w.heap.size w (w6.setCells gr 0 (enA en0 none 0 0).toList)) := ⟨below_setCells HD3.out.low gr HD3.out.ge _ _⟩
        clear HD3
        go_wp2_with (refine wpList_store_mid rfl 28 (.tmp 2) (.tmp 121) rfl gr 0 (enA en0 none 0 0) rfl rfl HTH.out (enA_info en0_dig) enA_one ?_)
        exact bodyPost_ret (v := .tuple #[.agg (enA en0 none 0 0), .int .i64 4]) (results_ce rfl _ _ gr en0 none 0 0 _ rfl rfl HSE.out) rfl (dcp_no HNO.out HBF.out)
      have c3I : ¬ (1073741824 : Int) < (u3 : Int) := by omega
      by_cases c5 : len ≤ q
      · have HNO : Bx (decN b = (en0, 4)) := ⟨HN.out (.inr (.inr c5))⟩
        have hq : (len : Int) ≤ (q : Int) := by omega
        have HTH : Bx (w6.there gr 0 (enA en0 none 0 0).size) := ⟨HD3.out.res.en_there en0_dig⟩
        have HSE : Bx (EnB (w6.setCells gr 0 (enA en0 none 0 0).toList) gr en0 none 0 0) := ⟨HD3.out.res.en en0_dig⟩
        have HBF : Bx (Below w.heap.size w (w6.setCells gr 0 (enA en0 none 0 0).toList)) := ⟨below_setCells HD3.out.low gr HD3.out.ge _ _⟩
        clear HD3
        go_wp2_with (refine wpList_store_mid rfl 28 (.tmp 2) (.tmp 121) rfl gr 0 (enA en0 none 0 0) rfl rfl HTH.out (enA_info en0_dig) enA_one ?_)
        exact bodyPost_ret (v := .tuple #[.agg (enA en0 none 0 0), .int .i64 4]) (results_ce rfl _ _ gr en0 none 0 0 _ rfl rfl HSE.out) rfl (dcp_no HNO.out HBF.out)
      have c5I : ¬ (len : Int) ≤ (q : Int) := by omega
      have c5d : decide (len ≤ q) = false := by simpa using c5
      have HRD : Bx (rdN b = some ⟨(u1 : Int), (u2 : Int), (b.drop p).take 32, (b.drop (p + 32)).take 32, (kk : Int), (u3 : Int), b.drop (q + 1)⟩) := ⟨by
        rw [← HKK.out]
        exact rdN_is HU1.out HF1.out (by rw [HN1.out]; exact HU2.out) (by rw [HN1.out]; exact HF2.out) (by rw [HN1.out, HN2.out]; exact HP.out) (by rw [HLEN.out]; omega) HU3.out HF3.out (by rw [HN3.out]; exact HQ.out) (by rw [HLEN.out]; omega)⟩
      have y8 := HD3.out.en.c68
      have z8 := HD3.out.en.fr 68
      have HD4 := Bx.mk (HD3.out.put (HD3.out.en.setR (u3 : Int)) rfl)
      clear HD3 HN
      go_upto_region 18 with fail
      generalize w6.setCell ⟨gE, 68, none⟩ (.int .i64 (u3 : Int)) = w7 at HD4 ⊢
      simp only at HD4
      clear y8 z8 c3I c5I c5d
      -- the order
      obtain ⟨bE, HBE⟩ : ∃ bE, Bx (b.drop (q + 1) = bE) := ⟨_, ⟨rfl⟩⟩
      obtain ⟨nE, HNE2⟩ : ∃ nE, Bx (q + 1 + nE = len) := ⟨len - (q + 1), ⟨by omega⟩⟩
      have HBEL : Bx (bE.length = nE) := ⟨by rw [← HBE.out, List.length_drop, HLEN.out]; have := HNE2.out; omega⟩
      rw [HBE.out] at HRD
      go_wp2_with fail
      go_loopw [16] (fun i wr => ∃ (m : Nat) (ao : Option Addr) (co : Nat), m ≤ nE ∧ i = .int .i64 ((q : Int) + 1 + (m : Int)) ∧ Bx (DF w gr gE ⟨(u1 : Int), (u2 : Int), (b.drop p).take 32, (b.drop (p + 32)).take 32, (kk : Int), (u3 : Int), bE.take m⟩ ao m co wr)) (fun i _ => len - (intOf i).toNat)
      case atStart => exact ⟨0, none, 0, Nat.zero_le _, by go_num, by rw [List.take_zero]; exact HD4⟩
      case round =>
        clear HD4
        obtain ⟨m, ao, co, hm, rfl, HD⟩ := hrel
        have hnE := HNE2.out
        by_cases hmn : m < nE
        · have hmI : (q : Int) + 1 + (m : Int) < (len : Int) := by omega
          obtain ⟨q1, HQ1⟩ : ∃ q1, Bx (q1 = q + 1 + m) := ⟨_, ⟨rfl⟩⟩
          have hq1 := HQ1.out
          have hqq : (q : Int) + 1 + (m : Int) = (q1 : Int) := by omega
          rw [hqq] at hmI ⊢
          have x1 : w.cell? ⟨bb, off + q1, none⟩ = some (.int .u8 (b.getD q1 0)) := HCC.out q1 (by omega)
          have hxb := HBY.out.getD q1
          have HTK : Bx (bE.take (m + 1) = bE.take m ++ [bE.getD m 0]) := ⟨take_succ_getD bE m (by rw [HBEL.out]; exact hmn)⟩
          have HGX : Bx (bE.getD m 0 = b.getD q1 0) := ⟨by rw [← HBE.out, hq1, List.getD_eq_getElem?_getD, List.getElem?_drop, ← List.getD_eq_getElem?_getD]⟩
          rw [HGX.out] at HTK
          generalize b.getD q1 0 = x at x1 hxb HTK
          obtain ⟨x, rfl⟩ : ∃ y : Nat, x = y := ⟨x.toNat, by omega⟩
          have hx : x ≤ 255 := by omega
          have hE := HD.out.drew
          have hL : bb < wr.drew.heap.size := Nat.lt_of_lt_of_le HBL0.out hE.low.size
          have hk : wr.drew.cell? ⟨bb, off + q1, none⟩ = some (.int .u8 (x : Int)) := (hE.low.cell (p := ⟨bb, off + q1, none⟩) HBL0.out).trans x1
          have hnx : (q1 : Int) + 1 = (q : Int) + 1 + ((m + 1 : Nat) : Int) := by omega
          have HNX := Bx.mk hnx
          have hm1 : m + 1 ≤ 100000 := by omega
          have hwx : IntKind.i64.wrap (x : Int) = (x : Int) := IntWalk.i64_in _ (by omega)
          clear hq1 hqq hxb x1 HD hnE hnx
          go_upto_region 21 with fail
          refine wp_region_held_drew (S := fun W => W.cell? ⟨bb, off + q1, none⟩ = some (.int .u8 (x : Int))) (by kernel_rfl) hk (fun _ => ?_)
          generalize wr.drew = wd at hk hE hL ⊢
          have y7 := hE.en.c67
          have HK0 := Bx.mk hk
          refine wpAnyH_take (i := 0) (oi := { dst := some 134, op := Op.fieldAddr 28 (Operand.tmp 4) 4, type := 0, pos := "ref.go:84", after := #[], guard := none }) (v := ?vrde211) rfl (by kernel_rfl) (by kernel_rfl) (by kernel_rfl) (fun _ _ _ h => h) (Or.inl ⟨by rfl, ?yrde211⟩) hk ?rrde211
          case yrde211 => (intro w hSw; (try dsimp only at hSw); go_simp; first | done | with_reducible rfl)
          simp only [Act.put, List.setIfInBounds_toArray, List.set_cons_zero, List.set_cons_succ]
          refine wpAnyH_take (i := 1) (oi := { dst := some 135, op := Op.fieldAddr 26 (Operand.tmp 134) 1, type := 0, pos := "ref.go:84", after := #[{ on := 0, ground := Ground.data }], guard := none }) (v := ?vrde212) rfl (by kernel_rfl) (by kernel_rfl) (by kernel_rfl) (fun _ _ _ h => h) (Or.inl ⟨by rfl, ?yrde212⟩) hk ?rrde212
          case yrde212 => (intro w hSw; (try dsimp only at hSw); go_simp; first | done | with_reducible rfl)
          simp only [Act.put, List.setIfInBounds_toArray, List.set_cons_zero, List.set_cons_succ]
          refine wpAnyH_take (i := 3) (oi := { dst := some 137, op := Op.move (Operand.tmp 0), type := 29, pos := "ref.go:84", after := #[], guard := none }) (v := ?vrde213) rfl (by kernel_rfl) (by kernel_rfl) (by kernel_rfl) (fun _ _ _ h => h) (Or.inl ⟨by rfl, ?yrde213⟩) hk ?rrde213
          case yrde213 => (intro w hSw; (try dsimp only at hSw); go_simp; first | done | with_reducible rfl)
          simp only [Act.put, List.setIfInBounds_toArray, List.set_cons_zero, List.set_cons_succ]
          refine wpAnyH_take (i := 4) (oi := { dst := some 138, op := Op.move (Operand.tmp 16), type := 3, pos := "ref.go:84", after := #[], guard := none }) (v := ?vrde214) rfl (by kernel_rfl) (by kernel_rfl) (by kernel_rfl) (fun _ _ _ h => h) (Or.inl ⟨by rfl, ?yrde214⟩) hk ?rrde214
          case yrde214 => (intro w hSw; (try dsimp only at hSw); go_simp; first | done | with_reducible rfl)
          simp only [Act.put, List.setIfInBounds_toArray, List.set_cons_zero, List.set_cons_succ]
          refine wpAnyH_take (i := 5) (oi := { dst := some 139, op := Op.indexAddr 29 (Operand.tmp 137) (Operand.tmp 138), type := 0, pos := "ref.go:84", after := #[{ on := 3, ground := Ground.data }, { on := 4, ground := Ground.data }], guard := none }) (v := ?vrde215) rfl (by kernel_rfl) (by kernel_rfl) (by kernel_rfl) (fun _ _ _ h => h) (Or.inl ⟨by rfl, ?yrde215⟩) hk ?rrde215
          case yrde215 => (intro w hSw; (try dsimp only at hSw); go_simp; first | done | with_reducible rfl)
          simp only [Act.put, List.setIfInBounds_toArray, List.set_cons_zero, List.set_cons_succ]
          refine wpAnyH_take (i := 6) (oi := { dst := some 140, op := Op.load 5 (Operand.tmp 139), type := 5, pos := "ref.go:84", after := #[{ on := 5, ground := Ground.data }], guard := none }) (v := ?vrde216) rfl (by kernel_rfl) (by kernel_rfl) (by kernel_rfl) (fun _ _ _ h => h) (Or.inl ⟨by rfl, ?yrde216⟩) hk ?rrde216
          case yrde216 => (intro w hSw; have hcw := hSw; clear hSw; go_simp; first | done | with_reducible rfl)
          simp only [Act.put, List.setIfInBounds_toArray, List.set_cons_zero, List.set_cons_succ]
          refine wpAnyH_take (i := 7) (oi := { dst := some 141, op := Op.convert 5 3 (Operand.tmp 140), type := 3, pos := "ref.go:84", after := #[{ on := 6, ground := Ground.data }], guard := none }) (v := ?vrde217) rfl (by kernel_rfl) (by kernel_rfl) (by kernel_rfl) (fun _ _ _ h => h) (Or.inl ⟨by rfl, ?yrde217⟩) hk ?rrde217
          case yrde217 => (intro w hSw; (try dsimp only at hSw); go_simp; first | done | with_reducible rfl)
          simp only [Act.put, List.setIfInBounds_toArray, List.set_cons_zero, List.set_cons_succ]
          refine wpAnyH_ready (rs := [2, 8]) (by decide +kernel) (by simp) ?_
          refine (AllReadyH.cons (o := { dst := some 136, op := Op.load 24 (Operand.tmp 135), type := 24, pos := "ref.go:84", after := #[{ on := 1, ground := Ground.data }], guard := none }) rfl (fun K hK => ?_) (AllReadyH.cons (o := { dst := some 142, op := Op.buildSlice 24 1 #[(0, Operand.tmp 141)], type := 24, pos := "ref.go:84", after := #[{ on := 7, ground := Ground.data }], guard := none }) rfl (fun K hK => ?_) AllReadyH.nil))
          · go_simp
            refine hK.out _ _ hk (fun _ => ?_)
            clear hK K
            try simp only [Act.put, List.setIfInBounds_toArray, List.set_cons_zero, List.set_cons_succ]
            refine wpAnyH_ready (rs := [8]) (by decide +kernel) (by simp) ?_
            refine AllReadyH.cons (o := { dst := some 142, op := Op.buildSlice 24 1 #[(0, Operand.tmp 141)], type := 24, pos := "ref.go:84", after := #[{ on := 7, ground := Ground.data }], guard := none }) rfl (fun K hK => ?_) AllReadyH.nil
            go_simp
            have hbA : Below wd.heap.size wd (wd.alloc (.cells #[.int .i64 (x : Int)] 3)) := (Below.refl _ _).alloc (Nat.le_refl _) _
            have HNW := Bx.mk (World.news_of_block (heap_alloc_new wd (.cells #[.int .i64 (x : Int)] 3)))
            have HOA := Bx.mk (hE.own.alloc (.cells #[.int .i64 (x : Int)] 3))
            have HBA : Bx (Below (gE + 1) wd (wd.alloc (.cells #[.int .i64 (x : Int)] 3))) := ⟨hbA.mono (by have := hE.en.lt; omega)⟩
            have HSZ : Bx (gE + 1 ≤ (wd.alloc (.cells #[.int .i64 (x : Int)] 3)).heap.size) := ⟨by have h1 := hbA.size; have h2 := hE.en.lt; omega⟩
            replace y7 := (hE.en.below hbA).c67
            replace hk := (hbA.cell hL).trans hk
            clear hbA
            obtain ⟨ga, HGA⟩ : ∃ ga, Bx (ga = wd.heap.size) := ⟨_, ⟨rfl⟩⟩
            rw [← HGA.out] at HNW ⊢
            generalize wd.alloc (.cells #[.int .i64 (x : Int)] 3) = we at hk y7 HNW HOA HBA HSZ ⊢
            refine hK.out _ _ hk (fun _ => ?_)
            clear hK K
            try simp only [Act.put, List.setIfInBounds_toArray, List.set_cons_zero, List.set_cons_succ]
            refine wpAnyH_ready (rs := [9]) (by decide +kernel) (by simp) ?_
            refine AllReadyH.cons (o := { dst := some 143, op := Op.call { callee := Callee.builtin Builtin.append, args := #[Operand.tmp 136, Operand.tmp 142], argTypes := #[24, 24] }, type := 24, pos := "ref.go:84", after := #[{ on := 2, ground := Ground.data }, { on := 8, ground := Ground.data }], guard := none }) rfl (fun K hK => ?_) AllReadyH.nil
            refine step_append_own rfl (.tmp 136) (.tmp 142) 24 rfl (gE + 1) 3 i0 (.int .i64 0) 1 8 Try.underlying24 hi hz0 hz1 hz2 rfl (by decide) (.slice ao m co) m _ (by rfl) HOA.out ⟨ga, 0, none⟩ 1 1 [.int .i64 (x : Int)] (by rfl) rfl HNW.out (by simp [Value.oneCell']) (by unfold maxLen; omega) (by omega) HSZ.out ?_
            intro v9 w9 ho9 hg9
            obtain ⟨g9, c9, rfl, _, _⟩ := owns_form ho9 (by omega)
            have hb9 : Below (gE + 1) wd w9 := HBA.out.grown hg9 HSZ.out (fun j hj => hE.own_ge j hj)
            have hE9 := hE.more (o' := (bE.take (m + 1))) HTK.out.symm hb9 (by rw [HTK.out, List.flatMap_append]; exact ho9)
            have e9 : EnB w9 gE _ _ _ _ := hE.en.keep (hb9.block gE (by omega))
            replace hk := (hb9.cell (p := ⟨bb, off + q1, none⟩) HBL.out).trans HK0.out
            replace y7 := e9.c67
            have f9 := e9.fr 67
            clear ho9 hg9 HNW HOA HBA HSZ e9
            refine hK.out _ _ hk (fun _ => ?_)
            clear hK K
            try simp only [Act.put, List.setIfInBounds_toArray, List.set_cons_zero, List.set_cons_succ]
            refine wpAnyH_take (i := 10) (oi := { dst := some 144, op := Op.fieldAddr 28 (Operand.tmp 4) 4, type := 0, pos := "ref.go:84", after := #[{ on := 0, ground := Ground.phase }, { on := 1, ground := Ground.phase }, { on := 2, ground := Ground.phase }, { on := 3, ground := Ground.phase }, { on := 4, ground := Ground.phase }, { on := 5, ground := Ground.phase }, { on := 6, ground := Ground.phase }, { on := 7, ground := Ground.phase }, { on := 8, ground := Ground.phase }, { on := 9, ground := Ground.phase }], guard := none }) (v := ?vrde218) rfl (by kernel_rfl) (by kernel_rfl) (by kernel_rfl) (fun _ _ _ h => h) (Or.inl ⟨by rfl, ?yrde218⟩) hk ?rrde218
            case yrde218 => (intro w hSw; (try dsimp only at hSw); go_simp; first | done | with_reducible rfl)
            simp only [Act.put, List.setIfInBounds_toArray, List.set_cons_zero, List.set_cons_succ]
            refine wpAnyH_take (i := 11) (oi := { dst := some 145, op := Op.fieldAddr 26 (Operand.tmp 144) 1, type := 0, pos := "ref.go:84", after := #[{ on := 10, ground := Ground.data }, { on := 0, ground := Ground.phase }, { on := 1, ground := Ground.phase }, { on := 2, ground := Ground.phase }, { on := 3, ground := Ground.phase }, { on := 4, ground := Ground.phase }, { on := 5, ground := Ground.phase }, { on := 6, ground := Ground.phase }, { on := 7, ground := Ground.phase }, { on := 8, ground := Ground.phase }, { on := 9, ground := Ground.phase }], guard := none }) (v := ?vrde219) rfl (by kernel_rfl) (by kernel_rfl) (by kernel_rfl) (fun _ _ _ h => h) (Or.inl ⟨by rfl, ?yrde219⟩) hk ?rrde219
            case yrde219 => (intro w hSw; (try dsimp only at hSw); go_simp; first | done | with_reducible rfl)
            simp only [Act.put, List.setIfInBounds_toArray, List.set_cons_zero, List.set_cons_succ]
            refine wpAnyH_ready (rs := [12]) (by decide +kernel) (by simp) ?_
            refine AllReadyH.cons (o := { dst := none, op := Op.store 24 (Operand.tmp 145) (Operand.tmp 143), type := 0, pos := "ref.go:84", after := #[{ on := 11, ground := Ground.data }, { on := 9, ground := Ground.data }, { on := 9, ground := Ground.chain }, { on := 0, ground := Ground.phase }, { on := 1, ground := Ground.phase }, { on := 2, ground := Ground.phase }, { on := 3, ground := Ground.phase }, { on := 4, ground := Ground.phase }, { on := 5, ground := Ground.phase }, { on := 6, ground := Ground.phase }, { on := 7, ground := Ground.phase }, { on := 8, ground := Ground.phase }, { on := 9, ground := Ground.phase }], guard := none }) rfl (fun K hK => ?_) AllReadyH.nil
            go_simp
            replace hk := (cell_other HNE.out w9 67 (.slice (some ⟨g9, 0, none⟩) (m + 1) c9) (off + q1)).trans hk
            refine hK.out _ _ hk (fun _ => ?_)
            clear hK K
            try simp only [Act.put, List.setIfInBounds_toArray, List.set_cons_zero, List.set_cons_succ]
            refine wpAnyH_done (by decide +kernel) ?_ _
            go_wp2_with fail
            go_roundw
            case rel => exact ⟨m + 1, some ⟨g9, 0, none⟩, c9, by omega, by rw [HNX.out], ⟨hE9⟩⟩
            case measure => simp [intOf]; omega
          · go_simp
            have hbA : Below wd.heap.size wd (wd.alloc (.cells #[.int .i64 (x : Int)] 3)) := (Below.refl _ _).alloc (Nat.le_refl _) _
            have HNW := Bx.mk (World.news_of_block (heap_alloc_new wd (.cells #[.int .i64 (x : Int)] 3)))
            have HOA := Bx.mk (hE.own.alloc (.cells #[.int .i64 (x : Int)] 3))
            have HBA : Bx (Below (gE + 1) wd (wd.alloc (.cells #[.int .i64 (x : Int)] 3))) := ⟨hbA.mono (by have := hE.en.lt; omega)⟩
            have HSZ : Bx (gE + 1 ≤ (wd.alloc (.cells #[.int .i64 (x : Int)] 3)).heap.size) := ⟨by have h1 := hbA.size; have h2 := hE.en.lt; omega⟩
            replace y7 := (hE.en.below hbA).c67
            replace hk := (hbA.cell hL).trans hk
            clear hbA
            obtain ⟨ga, HGA⟩ : ∃ ga, Bx (ga = wd.heap.size) := ⟨_, ⟨rfl⟩⟩
            rw [← HGA.out] at HNW ⊢
            generalize wd.alloc (.cells #[.int .i64 (x : Int)] 3) = we at hk y7 HNW HOA HBA HSZ ⊢
            refine hK.out _ _ hk (fun _ => ?_)
            clear hK K
            try simp only [Act.put, List.setIfInBounds_toArray, List.set_cons_zero, List.set_cons_succ]
            refine wpAnyH_ready (rs := [2]) (by decide +kernel) (by simp) ?_
            refine AllReadyH.cons (o := { dst := some 136, op := Op.load 24 (Operand.tmp 135), type := 24, pos := "ref.go:84", after := #[{ on := 1, ground := Ground.data }], guard := none }) rfl (fun K hK => ?_) AllReadyH.nil
            go_simp
            refine hK.out _ _ hk (fun _ => ?_)
            clear hK K
            try simp only [Act.put, List.setIfInBounds_toArray, List.set_cons_zero, List.set_cons_succ]
            refine wpAnyH_ready (rs := [9]) (by decide +kernel) (by simp) ?_
            refine AllReadyH.cons (o := { dst := some 143, op := Op.call { callee := Callee.builtin Builtin.append, args := #[Operand.tmp 136, Operand.tmp 142], argTypes := #[24, 24] }, type := 24, pos := "ref.go:84", after := #[{ on := 2, ground := Ground.data }, { on := 8, ground := Ground.data }], guard := none }) rfl (fun K hK => ?_) AllReadyH.nil
            refine step_append_own rfl (.tmp 136) (.tmp 142) 24 rfl (gE + 1) 3 i0 (.int .i64 0) 1 8 Try.underlying24 hi hz0 hz1 hz2 rfl (by decide) (.slice ao m co) m _ (by rfl) HOA.out ⟨ga, 0, none⟩ 1 1 [.int .i64 (x : Int)] (by rfl) rfl HNW.out (by simp [Value.oneCell']) (by unfold maxLen; omega) (by omega) HSZ.out ?_
            intro v9 w9 ho9 hg9
            obtain ⟨g9, c9, rfl, _, _⟩ := owns_form ho9 (by omega)
            have hb9 : Below (gE + 1) wd w9 := HBA.out.grown hg9 HSZ.out (fun j hj => hE.own_ge j hj)
            have hE9 := hE.more (o' := (bE.take (m + 1))) HTK.out.symm hb9 (by rw [HTK.out, List.flatMap_append]; exact ho9)
            have e9 : EnB w9 gE _ _ _ _ := hE.en.keep (hb9.block gE (by omega))
            replace hk := (hb9.cell (p := ⟨bb, off + q1, none⟩) HBL.out).trans HK0.out
            replace y7 := e9.c67
            have f9 := e9.fr 67
            clear ho9 hg9 HNW HOA HBA HSZ e9
            refine hK.out _ _ hk (fun _ => ?_)
            clear hK K
            try simp only [Act.put, List.setIfInBounds_toArray, List.set_cons_zero, List.set_cons_succ]
            refine wpAnyH_take (i := 10) (oi := { dst := some 144, op := Op.fieldAddr 28 (Operand.tmp 4) 4, type := 0, pos := "ref.go:84", after := #[{ on := 0, ground := Ground.phase }, { on := 1, ground := Ground.phase }, { on := 2, ground := Ground.phase }, { on := 3, ground := Ground.phase }, { on := 4, ground := Ground.phase }, { on := 5, ground := Ground.phase }, { on := 6, ground := Ground.phase }, { on := 7, ground := Ground.phase }, { on := 8, ground := Ground.phase }, { on := 9, ground := Ground.phase }], guard := none }) (v := ?vrde2110) rfl (by kernel_rfl) (by kernel_rfl) (by kernel_rfl) (fun _ _ _ h => h) (Or.inl ⟨by rfl, ?yrde2110⟩) hk ?rrde2110
            case yrde2110 => (intro w hSw; (try dsimp only at hSw); go_simp; first | done | with_reducible rfl)
            simp only [Act.put, List.setIfInBounds_toArray, List.set_cons_zero, List.set_cons_succ]
            refine wpAnyH_take (i := 11) (oi := { dst := some 145, op := Op.fieldAddr 26 (Operand.tmp 144) 1, type := 0, pos := "ref.go:84", after := #[{ on := 10, ground := Ground.data }, { on := 0, ground := Ground.phase }, { on := 1, ground := Ground.phase }, { on := 2, ground := Ground.phase }, { on := 3, ground := Ground.phase }, { on := 4, ground := Ground.phase }, { on := 5, ground := Ground.phase }, { on := 6, ground := Ground.phase }, { on := 7, ground := Ground.phase }, { on := 8, ground := Ground.phase }, { on := 9, ground := Ground.phase }], guard := none }) (v := ?vrde2111) rfl (by kernel_rfl) (by kernel_rfl) (by kernel_rfl) (fun _ _ _ h => h) (Or.inl ⟨by rfl, ?yrde2111⟩) hk ?rrde2111
            case yrde2111 => (intro w hSw; (try dsimp only at hSw); go_simp; first | done | with_reducible rfl)
            simp only [Act.put, List.setIfInBounds_toArray, List.set_cons_zero, List.set_cons_succ]
            refine wpAnyH_ready (rs := [12]) (by decide +kernel) (by simp) ?_
            refine AllReadyH.cons (o := { dst := none, op := Op.store 24 (Operand.tmp 145) (Operand.tmp 143), type := 0, pos := "ref.go:84", after := #[{ on := 11, ground := Ground.data }, { on := 9, ground := Ground.data }, { on := 9, ground := Ground.chain }, { on := 0, ground := Ground.phase }, { on := 1, ground := Ground.phase }, { on := 2, ground := Ground.phase }, { on := 3, ground := Ground.phase }, { on := 4, ground := Ground.phase }, { on := 5, ground := Ground.phase }, { on := 6, ground := Ground.phase }, { on := 7, ground := Ground.phase }, { on := 8, ground := Ground.phase }, { on := 9, ground := Ground.phase }], guard := none }) rfl (fun K hK => ?_) AllReadyH.nil
            go_simp
            replace hk := (cell_other HNE.out w9 67 (.slice (some ⟨g9, 0, none⟩) (m + 1) c9) (off + q1)).trans hk
            refine hK.out _ _ hk (fun _ => ?_)
            clear hK K
            try simp only [Act.put, List.setIfInBounds_toArray, List.set_cons_zero, List.set_cons_succ]
            refine wpAnyH_done (by decide +kernel) ?_ _
            go_wp2_with fail
            go_roundw
            case rel => exact ⟨m + 1, some ⟨g9, 0, none⟩, c9, by omega, by rw [HNX.out], ⟨hE9⟩⟩
            case measure => simp [intOf]; omega
        · obtain rfl : m = nE := by omega
          have hmI : ¬ (q : Int) + 1 + (m : Int) < (len : Int) := by omega
          have HT : Bx (bE.take m = bE) := ⟨List.take_of_length_le (by rw [HBEL.out]; omega)⟩
          rw [HT.out] at HD
          obtain ⟨E, HE⟩ : ∃ E : En, Bx (E = ⟨(u1 : Int), (u2 : Int), (b.drop p).take 32, (b.drop (p + 32)).take 32, (kk : Int), (u3 : Int), bE⟩) := ⟨_, ⟨rfl⟩⟩
          rw [← HE.out] at HD HRD
          clear HE hnE
          have HED := Bx.mk HD.out.en.dig
          have HEN := Bx.mk HD.out.en
          obtain ⟨ai, ci, e, hIV⟩ := Ls.of_owns ivC_len HD.out.own (by have := HD.out.own.1; rw [iv_map, List.length_map] at this; omega)
          cases e
          have HIV := Bx.mk hIV
          clear hIV
          go_wp2_with (refine wpList_load_en rfl (.tmp 4) rfl rfl HEN.out ?_)
          refine (refencode20_any E ao m co _ HIV.out HED.out).mono ?_
          rintro e w8 ⟨v8, rfl, ho8, hb8⟩
          have HD8 := Bx.mk (HD.out.below hb8)
          have HBT := Bx.mk (H.out.below HD8.out.low)
          have HO8 := Bx.mk ho8
          clear ho8 hb8 HD HEN HIV
          rcases chkN_ways E with hok | hok
          · have hcan := chkN_can hok
            have HBY8 : Bx (Byt (enL E)) := ⟨enL_byt hcan HED.out.1 HED.out.2⟩
            rw [encN_ok hok] at HO8
            rw [hok]
            obtain ⟨a8, c8, rfl, hb8⟩ := Bts.of_owns HO8.out HBY8.out
            have HB8 := Bx.mk hb8
            have HCAN := Bx.mk hcan
            clear hb8 hok hcan HO8
            go_wp2_with fail
            refine (same_any a8 (some ⟨bb, off, none⟩) (enL E).length len c8 cap (enL E) b _ HB8.out HBT.out).mono ?_
            rintro e w9 ⟨rfl, nq, rfl⟩
            have HD9 := Bx.mk (HD8.out.below (below_drewN (Below.refl _ _) nq))
            generalize w8.drewN nq = w9 at HD9 ⊢
            clear HD8 HB8 HBT
            by_cases hs : enL E = b
            · have HYE : Bx (decN b = (E, 0)) := ⟨decN_same HRD.out HCAN.out hs⟩
              rw [decide_eq_true hs]
              clear hs
              have HEN := Bx.mk HD9.out.en
              have HTH : Bx (w9.there gr 0 (enA E ao m co).size) := ⟨HD9.out.res.en_there HED.out⟩
              have HSE : Bx (EnB (w9.setCells gr 0 (enA E ao m co).toList) gr E ao m co) := ⟨HD9.out.res.en HED.out⟩
              have HBF : Bx (Below w.heap.size w (w9.setCells gr 0 (enA E ao m co).toList)) := ⟨below_setCells HD9.out.low gr HD9.out.ge _ _⟩
              have HOF : Bx ((w9.setCells gr 0 (enA E ao m co).toList).ownsRow w.heap.size 3 1 (.slice ao m co) m (E.o.flatMap ivC)) := ⟨owns_setCells (owns_base HD9.out.own (by have h1 := HD9.out.ge; have h2 := HD9.out.lt2; omega)) (fun k hk => by have h1 := HD9.out.own_ge k hk; have h2 := HD9.out.lt2; omega)⟩
              clear HD9
              go_wp2_with (refine wpList_load_en rfl (.tmp 4) rfl rfl HEN.out ?_; refine wpList_store_mid rfl 28 (.tmp 2) (.tmp 160) rfl gr 0 (enA E ao m co) rfl rfl HTH.out (enA_info HED.out) enA_one ?_)
              exact bodyPost_ret (v := .tuple #[.agg (enA E ao m co), .int .i64 0]) (results_ce rfl _ _ gr E ao m co _ rfl rfl HSE.out) rfl (dcp_yes HYE.out HOF.out HBF.out)
            · have HNO : Bx (decN b = (en0, 4)) := ⟨decN_other HRD.out (fun h => hs h.2)⟩
              rw [decide_eq_false hs]
              clear hs
              have HTH : Bx (w9.there gr 0 (enA en0 none 0 0).size) := ⟨HD9.out.res.en_there en0_dig⟩
              have HSE : Bx (EnB (w9.setCells gr 0 (enA en0 none 0 0).toList) gr en0 none 0 0) := ⟨HD9.out.res.en en0_dig⟩
              have HBF : Bx (Below w.heap.size w (w9.setCells gr 0 (enA en0 none 0 0).toList)) := ⟨below_setCells HD9.out.low gr HD9.out.ge _ _⟩
              clear HD9
              go_wp2_with (refine wpList_store_mid rfl 28 (.tmp 2) (.tmp 159) rfl gr 0 (enA en0 none 0 0) rfl rfl HTH.out (enA_info en0_dig) enA_one ?_)
              exact bodyPost_ret (v := .tuple #[.agg (enA en0 none 0 0), .int .i64 4]) (results_ce rfl _ _ gr en0 none 0 0 _ rfl rfl HSE.out) rfl (dcp_no HNO.out HBF.out)
          · have HNO : Bx (decN b = (en0, 4)) := ⟨decN_other HRD.out (fun h => by unfold chkN at hok; rw [h.1] at hok; simp at hok)⟩
            rw [hok]
            clear hok HO8 HBT
            have HTH : Bx (w8.there gr 0 (enA en0 none 0 0).size) := ⟨HD8.out.res.en_there en0_dig⟩
            have HSE : Bx (EnB (w8.setCells gr 0 (enA en0 none 0 0).toList) gr en0 none 0 0) := ⟨HD8.out.res.en en0_dig⟩
            have HBF : Bx (Below w.heap.size w (w8.setCells gr 0 (enA en0 none 0 0).toList)) := ⟨below_setCells HD8.out.low gr HD8.out.ge _ _⟩
            clear HD8
            go_wp2_with (refine wpList_store_mid rfl 28 (.tmp 2) (.tmp 159) rfl gr 0 (enA en0 none 0 0) rfl rfl HTH.out (enA_info en0_dig) enA_one ?_)
            exact bodyPost_ret (v := .tuple #[.agg (enA en0 none 0 0), .int .i64 4]) (results_ce rfl _ _ gr en0 none 0 0 _ rfl rfl HSE.out) rfl (dcp_no HNO.out HBF.out)
end Go.Proofs.Ytlodbkjjkhpbaaa
