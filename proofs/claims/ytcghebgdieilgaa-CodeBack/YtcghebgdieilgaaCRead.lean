/- A number, an instruction, read. -/
import Derived.Test.YtcghebgdieilgaaCodeText
import Derived.Test.YtcghebgdieilgaaCMem
import Derived.Test.YtcghebgdieilgaaCCan
import Derived.Test.YtcghebgdieilgaaVar
import Derived.Test.YtcghebgdieilgaaZig
import Derived.Test.YtcghebgdieilgaaSlc
import Derived.BigQuiet
import Derived.BigRegion
import Derived.Deep.CutRange
namespace Go.Proofs.Ytcghebgdieilgaa
open Go.RowKit
set_option linter.unusedVariables false

/-- how many bytes a short number has -/
def rdn (l : List Int) : Nat := (rd l 0 0).2.1.toNat
set_option maxRecDepth 100000 in
theorem rdn_bd {l : List Int} (hb : Byt l) : rdn l ≤ l.length ∧ (rd l 0 0).2.1 = (rdn l : Int) := by
  unfold rdn
  by_cases he : (rd l 0 0).2.2 = 0
  · rcases hr : rd l 0 0 with ⟨x, n, e⟩
    rw [hr] at he
    simp only at he
    subst he
    obtain ⟨m, _, h2, h3, _⟩ := rd_back hb hr
    simp only
    omega
  · rw [(rd_err l 0 0 he).2]; simp
set_option maxHeartbeats 400000 in
theorem rnum15_any (a : Option Addr) (len cap : Nat) (l : List Int) (v w : World) (h : Bts v a len cap l) (hvw : Below v.heap.size v w) :
    Calls Try.prog 48 #[.slice a len cap] w fun e w' => ∃ a', e = .returned (.tuple #[.int .u64 (rd l 0 0).1, .slice a' (len - rdn l) (cap - rdn l), .int .i64 (rd l 0 0).2.2]) ∧ Bts v a' (len - rdn l) (cap - rdn l) (l.drop (rdn l)) ∧ ∃ q, w' = w.drewN q := by
  have H := Bx.mk (h.below hvw)
  have hbd := rdn_bd h.byt
  rw [h.len_eq] at hbd
  have hsl := run_sl_l a len cap (rdn l) (rd l 0 0).2.1 hbd.2 hbd.1
  have HR := Bx.mk (h.rest (rdn l) hbd.1)
  have hm := Nat.le_trans h.le_cap h.cap_le
  unfold maxLen at hm
  generalize slA a (rdn l) cap = a' at hsl HR
  clear h hbd hvw
  go_enter Try.func48, Try.ntmps48
  go_wp2_with fail
  refine (readvar_any a len cap l _ H.out).mono ?_
  rintro e wz ⟨rfl, rfl⟩
  unfold rdVal
  generalize (rd l 0 0).2.1 = n at hsl
  obtain ⟨x, HX⟩ : ∃ x, Bx (x = (rd l 0 0).1) := ⟨_, ⟨rfl⟩⟩
  obtain ⟨ee, HE⟩ : ∃ ee, Bx (ee = (rd l 0 0).2.2) := ⟨_, ⟨rfl⟩⟩
  rw [← HX.out, ← HE.out]
  go_wp2_with fail
  go_quiet (fail)
  go_wp2_with fail
  go_ret3
  exact ⟨a', by rw [← HX.out, ← HE.out]; rfl, HR.out, _, rfl⟩
/-- an instruction in a variable -/
def IB (w : World) (g : Nat) (x : Ic) : Prop := w.heap[g]? = some (.cells (icC x).toArray 52 (0, 0))
set_option maxRecDepth 100000 in
theorem IB.at {w : World} {g : Nat} {x : Ic} (h : IB w g x) : w.cell? ⟨g, 0, none⟩ = some (.int .i64 x.o) ∧ w.cell? ⟨g, 1, none⟩ = some (.int .i64 x.n) := ⟨cell_of_row _ g 0 _ _ (0, 0) h, cell_of_row _ g 1 _ _ (0, 0) h⟩
set_option maxRecDepth 100000 in
theorem IB.fr {w : World} {g : Nat} {x : Ic} (h : IB w g x) (j : Nat) : w.frozen? ⟨g, j, none⟩ = false := frozen_of_row _ g j _ _ h
set_option maxRecDepth 100000 in
theorem IB.lt {w : World} {g : Nat} {x : Ic} (h : IB w g x) : g < w.heap.size := (Array.getElem?_eq_some_iff.1 h).1
set_option maxRecDepth 100000 in
theorem IB.below {w w' : World} {g : Nat} {x : Ic} (h : IB w g x) (hb : Below w.heap.size w w') : IB w' g x := (hb.block g h.lt).trans h
set_option maxRecDepth 100000 in
theorem IB.other {w : World} {g g' : Nat} {x : Ic} (h : IB w g x) (hne : g ≠ g') (j : Nat) (u : Value) : IB (w.setCell ⟨g', j, none⟩ u) g x := (heap_setCell_other w ⟨g', j, none⟩ g u hne).trans h
set_option maxRecDepth 100000 in
theorem IB.set1 {w : World} {g : Nat} {x : Ic} (h : IB w g x) (n : Int) : IB (w.setCell ⟨g, 1, none⟩ (.int .i64 n)) g ⟨x.o, n⟩ := heap_setCell_same w g 1 _ _ _ h
set_option maxRecDepth 100000 in
theorem IB.put {w : World} {g : Nat} {x : Ic} (h : IB w g x) (o n : Int) : IB ((w.setCell ⟨g, 0, none⟩ (.int .i64 o)).setCell ⟨g, 1, none⟩ (.int .i64 n)) g ⟨o, n⟩ := heap_setCell_same _ g 1 _ _ _ (heap_setCell_same w g 0 _ _ _ h)
set_option maxRecDepth 100000 in
theorem ib_new (w : World) (o n : Int) : IB (w.alloc (.cells #[.int .i64 o, .int .i64 n] 52)) w.heap.size ⟨o, n⟩ := heap_alloc_new w _
/-- what readOne answers -/
def InP (l : List Int) (len cap : Nat) (v w : World) (e : Ending) (w' : World) : Prop := Below w.heap.size w w' ∧
  (((rdI l).2.2 ≠ 0 ∧ e = .returned (.tuple #[.agg #[.int .i64 0, .int .i64 0], .slice none 0 0, .int .i64 (rdI l).2.2])) ∨
  ((rdI l).2.2 = 0 ∧ ∃ a', e = .returned (.tuple #[.agg #[.int .i64 (rdI l).1.o, .int .i64 (rdI l).1.n], .slice a' (len - (rdI l).2.1) (cap - (rdI l).2.1), .int .i64 0]) ∧ Bts v a' (len - (rdI l).2.1) (cap - (rdI l).2.1) (l.drop (rdI l).2.1)))
set_option maxRecDepth 100000 in
theorem inp_no {l : List Int} {len cap : Nat} {u w w' : World} {r : Int} (h : rdI l = (ic0, 0, r)) (hr : r ≠ 0) (hb : Below w.heap.size w w') : InP l len cap u w (.returned (.tuple #[.agg #[.int .i64 0, .int .i64 0], .slice none 0 0, .int .i64 r])) w' := by
  unfold InP; rw [h]; exact ⟨hb, .inl ⟨hr, rfl⟩⟩
set_option maxRecDepth 100000 in
theorem inp_yes {l : List Int} {len cap m : Nat} {u w w' : World} {o n : Int} {a' : Option Addr} (h : rdI l = (⟨o, n⟩, m, 0)) (hb : Below w.heap.size w w') (hB : Bts u a' (len - m) (cap - m) (l.drop m)) : InP l len cap u w (.returned (.tuple #[.agg #[.int .i64 o, .int .i64 n], .slice a' (len - m) (cap - m), .int .i64 0])) w' := by
  unfold InP; rw [h]; exact ⟨hb, .inr ⟨rfl, a', rfl, hB⟩⟩
set_option maxHeartbeats 4000000 in
set_option maxRecDepth 100000 in
theorem rone_any (a : Option Addr) (len cap : Nat) (l : List Int) (v w : World) (h : Bts v a len cap l) (hvw : Below v.heap.size v w) :
    Calls Try.prog 49 #[.slice a len cap] w (InP l len cap v w) := by
  have HLEN : Bx (l.length = len) := ⟨h.len_eq⟩
  have HBY := Bx.mk h.byt
  have hm := Nat.le_trans h.le_cap h.cap_le
  unfold maxLen at hm
  obtain ⟨g2, HGE⟩ : ∃ g2, Bx (g2 = w.heap.size) := ⟨_, ⟨rfl⟩⟩
  have HG2 : Bx (w.heap.size ≤ g2) := ⟨by rw [HGE.out]; exact Nat.le_refl _⟩
  have hba : Below w.heap.size w (w.alloc (.cells #[.int .i64 0, .int .i64 0] 52)) := (Below.refl _ _).alloc (Nat.le_refl _) _
  have HE2 := Bx.mk (ib_new w 0 0)
  rw [← HGE.out] at HE2
  have HB := Bx.mk hba
  have HL := Bx.mk ((h.below hvw).below hba)
  have HL0 := Bx.mk h
  have HVW := Bx.mk hvw
  clear h hba hvw
  by_cases h0 : len = 0
  · subst h0
    have HF : Bx (rdI l = (ic0, 0, 3)) := ⟨by unfold rdI; rw [if_pos HLEN.out]⟩
    go_enter Try.func49, Try.ntmps49
    go_upto_region 1 with fail
    rw [← HGE.out]
    generalize w.alloc (.cells #[.int .i64 0, .int .i64 0] 52) = w0 at HE2 HB HL ⊢
    -- nothing is answered but why
    obtain ⟨c0, c1⟩ := HE2.out.at
    have f0 := HE2.out.fr 0
    have f1 := HE2.out.fr 1
    have HZ := Bx.mk (HE2.out.put 0 0)
    have HBZ : Bx (Below w.heap.size w ((w0.setCell ⟨g2, 0, none⟩ (.int .i64 0)).setCell ⟨g2, 1, none⟩ (.int .i64 0))) := ⟨(HB.out.setCell (p := ⟨g2, 0, none⟩) HG2.out _).setCell (p := ⟨g2, 1, none⟩) HG2.out _⟩
    go_wp2_with fail
    generalize (w0.setCell ⟨g2, 0, none⟩ (.int .i64 0)).setCell ⟨g2, 1, none⟩ (.int .i64 0) = w9 at HZ HBZ ⊢
    obtain ⟨d0, d1⟩ := HZ.out.at
    exact bodyPost_ret (v := .tuple #[.agg #[.int .i64 0, .int .i64 0], .slice none 0 0, .int .i64 3]) (by simp [results, Try.results49, go_sem, d0, d1]) rfl (inp_no HF.out (by decide) HBZ.out)
  · have hpos : 0 < len := by omega
    have hposI : (0 : Int) < (len : Int) := by omega
    have hq0 : ((len : Int) == 0) = false := by simp; omega
    have HN0 : Bx (l.length ≠ 0) := ⟨by rw [HLEN.out]; exact h0⟩
    have hsl := run_sl_l a len cap 1 1 rfl hpos
    have HR1 := Bx.mk (HL0.out.rest 1 hpos)
    generalize slA a 1 cap = a1 at hsl HR1
    go_enter Try.func49, Try.ntmps49
    go_upto_region 1 with fail
    rw [← HGE.out]
    generalize w.alloc (.cells #[.int .i64 0, .int .i64 0] 52) = w0 at HE2 HB HL ⊢
    obtain ⟨b, off, rfl, _, hc⟩ := HL.out.spot hpos
    have x0 := hc 0 hpos
    rw [Nat.add_zero] at x0
    have hb0 := HBY.out.getD 0
    obtain ⟨c, HC⟩ : ∃ c : Nat, Bx (l.getD 0 0 = (c : Int)) := ⟨(l.getD 0 0).toNat, ⟨by omega⟩⟩
    rw [HC.out] at x0 hb0
    have hc255 : c ≤ 255 := by omega
    clear hc hb0 h0
    obtain ⟨g5, HG5E⟩ : ∃ g5, Bx (g5 = w0.heap.size) := ⟨_, ⟨rfl⟩⟩
    have HNE : Bx (g2 ≠ g5) := ⟨by have := HE2.out.lt; rw [HG5E.out]; omega⟩
    have HG5 : Bx (w.heap.size ≤ g5) := ⟨by rw [HG5E.out]; exact HB.out.size⟩
    have hba : Below w0.heap.size w0 (w0.alloc (.cells #[.int .i64 (c : Int), .int .i64 0] 52)) := (Below.refl _ _).alloc (Nat.le_refl _) _
    have HE5 := Bx.mk (ib_new w0 (c : Int) 0)
    rw [← HG5E.out] at HE5
    replace HE2 := Bx.mk (HE2.out.below hba)
    replace HB := Bx.mk (bstep HB.out hba)
    clear hba HL
    go_upto_region 4 with fail
    rw [← HG5E.out]
    generalize w0.alloc (.cells #[.int .i64 (c : Int), .int .i64 0] 52) = w1 at HE5 HE2 HB ⊢
    clear x0
    obtain ⟨k0, k1⟩ := HE5.out.at
    simp only at k0 k1
    cases his : isO (c : Int) with
    | false =>
      have HF : Bx (rdI l = (ic0, 0, 15)) := ⟨by unfold rdI; rw [if_neg HN0.out, HC.out, if_pos his]⟩
      have ht : tkA (c : Int) = -1 := by unfold tkA; rw [his]; rfl
      -- nothing is answered but why
      obtain ⟨c0, c1⟩ := HE2.out.at
      have f0 := HE2.out.fr 0
      have f1 := HE2.out.fr 1
      have HZ := Bx.mk (HE2.out.put 0 0)
      have HBZ : Bx (Below w.heap.size w ((w1.setCell ⟨g2, 0, none⟩ (.int .i64 0)).setCell ⟨g2, 1, none⟩ (.int .i64 0))) := ⟨(HB.out.setCell (p := ⟨g2, 0, none⟩) HG2.out _).setCell (p := ⟨g2, 1, none⟩) HG2.out _⟩
      go_wp2_with (go_at_call 9; refine (takes_any _ _).mono ?_; rintro e wz ⟨rfl, hw⟩; replace hw := hw.symm; subst hw; rw [ht])
      generalize (w1.setCell ⟨g2, 0, none⟩ (.int .i64 0)).setCell ⟨g2, 1, none⟩ (.int .i64 0) = w9 at HZ HBZ ⊢
      obtain ⟨d0, d1⟩ := HZ.out.at
      exact bodyPost_ret (v := .tuple #[.agg #[.int .i64 0, .int .i64 0], .slice none 0 0, .int .i64 15]) (by simp [results, Try.results49, go_sem, d0, d1]) rfl (inp_no HF.out (by decide) HBZ.out)
    | true =>
      have ht := tkA_is his
      have hbd := tbl_bd his
      rw [← ht] at hbd
      have hnk := hnB_nk his
      have HRD : Bx (rdI l = (if 0 < nkO (c : Int) then (if (rd (l.drop 1) 0 0).2.2 ≠ 0 then (ic0, 0, (rd (l.drop 1) 0 0).2.2) else (⟨(c : Int), zagV (rd (l.drop 1) 0 0).1⟩, 1 + (rd (l.drop 1) 0 0).2.1.toNat, 0)) else (⟨(c : Int), 0⟩, 1, 0))) := ⟨by
        conv => lhs; unfold rdI
        rw [if_neg HN0.out, HC.out, if_neg (by rw [his]; decide)]⟩
      obtain ⟨tk, HTK⟩ : ∃ tk, Bx (tkA (c : Int) = tk) := ⟨_, ⟨rfl⟩⟩
      rw [HTK.out] at hbd
      clear ht
      by_cases hkk : 0 < nkO (c : Int)
      · have hnk2 : hnB (c : Int) = true := by rw [hnk]; simpa using hkk
        rw [if_pos hkk] at HRD
        clear hnk hkk
        go_wp2_with (first | (go_at_call 9; refine (takes_any _ _).mono ?_; rintro e wz ⟨rfl, hw⟩; replace hw := hw.symm; subst hw; rw [HTK.out]) | (go_at_call 33; refine (hasnum_any _ _).mono ?_; rintro e wz ⟨rfl, hw⟩; replace hw := hw.symm; subst hw; rw [hnk2]))
        refine (rnum15_any a1 (len - 1) (cap - 1) (l.drop 1) v _ HR1.out (bstep HVW.out HB.out)).mono ?_
        rintro e w5 ⟨a5, rfl, hb5, q5, hq5⟩
        have hbq : Below w1.heap.size w1 w5 := by rw [hq5]; exact below_drewN (Below.refl _ _) q5
        replace HE2 := Bx.mk (HE2.out.below hbq)
        replace HE5 := Bx.mk (HE5.out.below hbq)
        replace HB := Bx.mk (bstep HB.out hbq)
        have HL5 := Bx.mk hb5
        have HUB := Bx.mk (rd_bd (l.drop 1) 0 0 (HBY.out.drop 1) (by omega) (by omega) (by decide))
        clear hbq hq5 hb5 HR1 hsl k0 k1
        obtain ⟨u, HU⟩ : ∃ u, Bx ((rd (l.drop 1) 0 0).1 = u) := ⟨_, ⟨rfl⟩⟩
        obtain ⟨r, HR⟩ : ∃ r, Bx ((rd (l.drop 1) 0 0).2.2 = r) := ⟨_, ⟨rfl⟩⟩
        obtain ⟨n, HN⟩ : ∃ n, Bx (rdn (l.drop 1) = n) := ⟨_, ⟨rfl⟩⟩
        rw [HU.out, HR.out, HN.out]
        rw [HN.out] at HL5
        rw [HU.out] at HUB
        by_cases hr : r = 0
        · subst hr
          have HF : Bx (rdI l = (⟨(c : Int), zagV u⟩, 1 + n, 0)) := ⟨by have h1 := HRD.out; rw [HR.out, HU.out] at h1; rw [h1, if_neg (fun h => h rfl)]; show (_, 1 + rdn (l.drop 1), _) = _; rw [HN.out]⟩
          go_wp2_with fail
          refine (zag_any u _ HUB.out.1 HUB.out.2).mono ?_
          rintro e wz ⟨rfl, rfl⟩
          obtain ⟨k0, k1⟩ := HE5.out.at
          have kf := HE5.out.fr 1
          obtain ⟨z, HZZ⟩ : ∃ z, Bx (zagV u = z) := ⟨_, ⟨rfl⟩⟩
          rw [HZZ.out] at HF ⊢
          have HE73 := Bx.mk (HE5.out.set1 z)
          have HE23 := Bx.mk (HE2.out.other HNE.out 1 (.int .i64 z))
          have HB3 : Bx (Below w.heap.size w (w5.setCell ⟨g5, 1, none⟩ (.int .i64 z))) := ⟨HB.out.setCell (p := ⟨g5, 1, none⟩) HG5.out _⟩
          go_upto_region 12 with fail
          generalize w5.setCell ⟨g5, 1, none⟩ (.int .i64 z) = w6 at HE73 HE23 HB3 ⊢
          clear k0 k1 kf HE5 HE2 HB
          obtain ⟨k0, k1⟩ := HE73.out.at
          obtain ⟨c0, c1⟩ := HE23.out.at
          have f0 := HE23.out.fr 0
          have f1 := HE23.out.fr 1
          have HZ := Bx.mk (HE23.out.put (c : Int) z)
          have HBZ : Bx (Below w.heap.size w ((w6.setCell ⟨g2, 0, none⟩ (.int .i64 (c : Int))).setCell ⟨g2, 1, none⟩ (.int .i64 z))) := ⟨(HB3.out.setCell (p := ⟨g2, 0, none⟩) HG2.out _).setCell (p := ⟨g2, 1, none⟩) HG2.out _⟩
          go_wp2_with fail
          generalize (w6.setCell ⟨g2, 0, none⟩ (.int .i64 (c : Int))).setCell ⟨g2, 1, none⟩ (.int .i64 z) = w9 at HZ HBZ ⊢
          obtain ⟨d0, d1⟩ := HZ.out.at
          have HL9 : Bx (Bts v a5 (len - (1 + n)) (cap - (1 + n)) (l.drop (1 + n))) := ⟨by have h1 := HL5.out; rw [List.drop_drop, Nat.sub_sub, Nat.sub_sub] at h1; exact h1⟩
          have HLE : Bx (len - 1 - n = len - (1 + n) ∧ cap - 1 - n = cap - (1 + n)) := ⟨⟨Nat.sub_sub _ _ _, Nat.sub_sub _ _ _⟩⟩
          rw [HLE.out.1, HLE.out.2]
          exact bodyPost_ret (v := .tuple #[.agg #[.int .i64 (c : Int), .int .i64 z], .slice a5 (len - (1 + n)) (cap - (1 + n)), .int .i64 0]) (by simp [results, Try.results49, go_sem, d0, d1]) rfl (inp_yes HF.out HBZ.out HL9.out)
        · have HF : Bx (rdI l = (ic0, 0, r)) := ⟨by have h1 := HRD.out; rw [HR.out, HU.out] at h1; rw [h1, if_pos hr]⟩
          have hrq : (r != 0) = true := by simpa using hr
          have HNZ : Bx (r ≠ 0) := ⟨hr⟩
          clear hr
          -- nothing is answered but why
          obtain ⟨c0, c1⟩ := HE2.out.at
          have f0 := HE2.out.fr 0
          have f1 := HE2.out.fr 1
          have HZ := Bx.mk (HE2.out.put 0 0)
          have HBZ : Bx (Below w.heap.size w ((w5.setCell ⟨g2, 0, none⟩ (.int .i64 0)).setCell ⟨g2, 1, none⟩ (.int .i64 0))) := ⟨(HB.out.setCell (p := ⟨g2, 0, none⟩) HG2.out _).setCell (p := ⟨g2, 1, none⟩) HG2.out _⟩
          go_wp2_with fail
          generalize (w5.setCell ⟨g2, 0, none⟩ (.int .i64 0)).setCell ⟨g2, 1, none⟩ (.int .i64 0) = w9 at HZ HBZ ⊢
          obtain ⟨d0, d1⟩ := HZ.out.at
          exact bodyPost_ret (v := .tuple #[.agg #[.int .i64 0, .int .i64 0], .slice none 0 0, .int .i64 r]) (by simp [results, Try.results49, go_sem, d0, d1]) rfl (inp_no HF.out HNZ.out HBZ.out)
      · have hnk2 : hnB (c : Int) = false := by rw [hnk]; simpa using hkk
        rw [if_neg hkk] at HRD
        clear hnk hkk
        obtain ⟨c0, c1⟩ := HE2.out.at
        have f0 := HE2.out.fr 0
        have f1 := HE2.out.fr 1
        have HZ := Bx.mk (HE2.out.put (c : Int) 0)
        have HBZ : Bx (Below w.heap.size w ((w1.setCell ⟨g2, 0, none⟩ (.int .i64 (c : Int))).setCell ⟨g2, 1, none⟩ (.int .i64 0))) := ⟨(HB.out.setCell (p := ⟨g2, 0, none⟩) HG2.out _).setCell (p := ⟨g2, 1, none⟩) HG2.out _⟩
        go_wp2_with (first | (go_at_call 9; refine (takes_any _ _).mono ?_; rintro e wz ⟨rfl, hw⟩; replace hw := hw.symm; subst hw; rw [HTK.out]) | (go_at_call 33; refine (hasnum_any _ _).mono ?_; rintro e wz ⟨rfl, hw⟩; replace hw := hw.symm; subst hw; rw [hnk2]))
        go_region
        have HZ2 : Bx (IB ((w1.setCell ⟨g2, 0, none⟩ (.int .i64 (c : Int))).setCell ⟨g2, 1, none⟩ (.int .i64 0)).drew g2 ⟨(c : Int), 0⟩) := ⟨HZ.out⟩
        have HBZ2 : Bx (Below w.heap.size w ((w1.setCell ⟨g2, 0, none⟩ (.int .i64 (c : Int))).setCell ⟨g2, 1, none⟩ (.int .i64 0)).drew) := ⟨HBZ.out.drew⟩
        generalize ((w1.setCell ⟨g2, 0, none⟩ (.int .i64 (c : Int))).setCell ⟨g2, 1, none⟩ (.int .i64 0)).drew = w9 at HZ2 HBZ2 ⊢
        clear HZ HBZ c0 c1 f0 f1 k0 k1
        go_wp2_with fail
        obtain ⟨d0, d1⟩ := HZ2.out.at
        exact bodyPost_ret (v := .tuple #[.agg #[.int .i64 (c : Int), .int .i64 0], .slice a1 (len - 1) (cap - 1), .int .i64 0]) (by simp [results, Try.results49, go_sem, d0, d1]) rfl (inp_yes HRD.out HBZ2.out HR1.out)
end Go.Proofs.Ytcghebgdieilgaa
