/- What Decode answers. -/
import Derived.Test.YtlodbkjjkhpbaaaEnRd
import Derived.Test.YtlodbkjjkhpbaaaEnEnc
import Derived.Test.YtlodbkjjkhpbaaaAppAt
import Derived.Laws.OwnMore
namespace Go.Proofs.Ytlodbkjjkhpbaaa
open Go.RowKit
set_option linter.unusedVariables false

set_option maxRecDepth 100000 in
theorem Try.infoI3 : (Try.prog.info? 3).map (fun i => (i.zero, i.size, i.bytes)) = some (some (.int .i64 0), 1, 8) := by kernel_rfl
set_option maxRecDepth 100000 in
theorem EnB.thereAt {w : World} {g : Nat} {e : En} {a : Option Addr} {n c : Nat} (h : EnB w g e a n c) (o k : Nat) (hk : o + k ≤ 69) : w.there g o k := fun j hj =>
  ⟨by rw [cell_of_row _ g (o + j) _ _ (0, 0) h.row, Array.getElem?_eq_getElem (by rw [enA_size h.dig]; omega)]; rfl, h.fr (o + j)⟩
/-- an entry that is being read -/
structure DE (v w0 : World) (g gr gE : Nat) (s : Rs) (E : En) (a : Option Addr) (n c : Nat) (wr : World) : Prop where
  rd : RdS v g s wr
  en : EnB wr gE E a n c
  own : wr.ownsRow (gE + 1) 3 1 (.slice a n c) n (E.o.flatMap ivC)
  res : NV 28 69 gr gr wr
  kept : Kept (Own1 g) w0 wr
  lt1 : g < gr
  lt2 : gr < gE
  ge : w0.heap.size = gr
section
variable {v w0 wr w' : World} {g gr gE : Nat} {s s' : Rs} {E E' : En} {a a' : Option Addr} {n n' c c' : Nat}
set_option maxRecDepth 100000 in
theorem DE.own_ge (h : DE v w0 g gr gE s E a n c wr) : ∀ j, (Value.slice a n c).ownBlock = some j → gE + 1 ≤ j := fun j hj => (h.own.lt j hj).1
set_option maxRecDepth 100000 in
theorem DE.call (h : DE v w0 g gr gE s E a n c wr) (h1 : RdS v g s' w') (h2 : Kept (Own1 g) wr w') : DE v w0 g gr gE s' E a n c w' := by
  have l1 := h.lt1
  have l2 := h.lt2
  obtain ⟨cs, e1, e2⟩ := h.res.row
  exact ⟨h1, h.en.kept h2 (show ¬ gE = g by omega), own_keep h.own (fun j hj => h2.block j (h.own.lt j hj).2 (by have := h.own_ge j hj; show ¬ j = g; omega)), ⟨h.res.ge, cs, e1, (h2.block gr h.res.lt (show ¬ gr = g by omega)).trans e2⟩, h.kept.trans' h2, l1, l2, h.ge⟩
set_option maxRecDepth 100000 in
theorem DE.puts (h : DE v w0 g gr gE s E a n c wr) {o : Nat} {xs : List Value} (hE : EnB (wr.setCells gE o xs) gE E' a n c) (ho : E'.o = E.o) : DE v w0 g gr gE s E' a n c (wr.setCells gE o xs) := by
  have l1 := h.lt1
  have l2 := h.lt2
  have l3 := h.rd.ge
  obtain ⟨cs, e1, e2⟩ := h.res.row
  refine ⟨h.rd.others (by omega) (by omega) o xs, hE, by rw [ho]; exact owns_setCells h.own (fun k hk => by have := h.own_ge k hk; omega), ⟨h.res.ge, cs, e1, (setCells_other (by omega) xs o).trans e2⟩, h.kept.setCells (g := gE) (.inr (by rw [h.ge]; omega)) _ _, l1, l2, h.ge⟩
set_option maxRecDepth 100000 in
theorem DE.put (h : DE v w0 g gr gE s E a n c wr) {o : Nat} {x : Value} (hE : EnB (wr.setCell ⟨gE, o, none⟩ x) gE E' a n c) (ho : E'.o = E.o) : DE v w0 g gr gE s E' a n c (wr.setCell ⟨gE, o, none⟩ x) := h.puts (o := o) (xs := [x]) hE ho
set_option maxRecDepth 100000 in
/-- a number comes behind -/
theorem DE.more (h : DE v w0 g gr gE s E a n c wr) {w1 : World} {x : Int} {o' : List Int} (ho' : E.o ++ [x] = o') {a' : Option Addr} {n' c' : Nat} (hb : Below (gE + 1) wr w1) (ho : w1.ownsRow (gE + 1) 3 1 (.slice a' n' c') n' (o'.flatMap ivC)) :
    DE v w0 g gr gE s ⟨E.j, E.t, E.H, E.S, E.k, E.r, o'⟩ a' n' c' (w1.setCell ⟨gE, 67, none⟩ (.slice a' n' c')) := by
  have l1 := h.lt1
  have l2 := h.lt2
  have l3 := h.rd.ge
  obtain ⟨cs, e1, e2⟩ := h.res.row
  have hE1 : EnB w1 gE E a n c := h.en.keep (hb.block gE (by omega))
  have hk : Kept (Own1 g) w0 w1 := h.kept.trans (Kept.of_low hb 0 (Nat.zero_le _)) (fun k hk => .inr (by rw [h.ge]; omega))
  refine ⟨(h.rd.apart hb (by omega)).other (by omega) (by omega) _ _, hE1.setO a' n' c' o', ?_, ⟨h.res.ge, cs, e1, (heap_setCell_other w1 ⟨gE, 67, none⟩ gr _ (by show gr ≠ gE; omega)).trans ((hb.block gr (by omega)).trans e2)⟩, hk.setCell (g := gE) (.inr (by rw [h.ge]; omega)) _ _, l1, l2, h.ge⟩
  exact owns_setCells (vs := [.slice a' n' c']) ho (fun k hk => by have := (ho.lt k hk).1; omega)
end
/-- how an entry that is read ends -/
def EnP (v : World) (g : Nat) (s : Rs) (w : World) (x : Ending) (w' : World) : Prop := ∃ a n c, x = .returned (.agg (enA (entE s) a n c)) ∧ w'.ownsRow w.heap.size 3 1 (.slice a n c) n ((entE s).o.flatMap ivC) ∧ RdS v g (entR8 s).2 w' ∧ Kept (Own1 g) w w'
set_option maxHeartbeats 4000000 in
set_option maxRecDepth 100000 in
theorem entry20_any (v : World) (g : Nat) (s : Rs) (w : World) (h : RdS v g s w) :
    Calls Try.prog 19 #[.pointer (some ⟨g, 0, none⟩)] w (EnP v g s w) := by
  obtain ⟨gr, HGR⟩ : ∃ gr, Bx (gr = w.heap.size) := ⟨_, ⟨rfl⟩⟩
  have HBYT := Bx.mk h.byt
  have H := Bx.mk h
  obtain ⟨i0, hi, hz0, hz1, hz2⟩ := info_parts Try.infoI3
  clear h
  go_enter Try.func19, Try.ntmps19
  have hzv := en0_run
  have hb1 : Below w.heap.size w (w.alloc (.cells (enA en0 none 0 0) 28)) := (Below.refl _ _).alloc (Nat.le_refl _) _
  have hv1 : NV 28 69 w.heap.size w.heap.size (w.alloc (.cells (enA en0 none 0 0) 28)) := NV.new (Nat.le_refl _) (enA_size en0_dig)
  have HV1 := Bx.mk hv1
  have HB1 := Bx.mk hb1
  clear hb1 hv1
  go_upto_region 1 with fail
  generalize w.alloc (.cells (enA en0 none 0 0) 28) = wa at HV1 HB1 ⊢
  rw [← HGR.out] at HV1 ⊢
  have hb2 : Below wa.heap.size wa (wa.alloc (.cells (enA en0 none 0 0) 28)) := (Below.refl _ _).alloc (Nat.le_refl _) _
  have he2 := EnB.new (e := en0) (a := none) (n := 0) (c := 0) wa en0_dig
  have HB2 := Bx.mk hb2
  have HE2 := Bx.mk he2
  clear hb2 he2
  go_upto_region 2 with fail
  clear hzv
  generalize wa.alloc (.cells (enA en0 none 0 0) 28) = wb at HB2 HE2 ⊢
  have hb2 := HB2.out
  have he2 := HE2.out
  obtain ⟨gE, HGE⟩ : ∃ gE, Bx (gE = wa.heap.size) := ⟨_, ⟨rfl⟩⟩
  rw [← HGE.out] at he2 ⊢
  have HD0 : Bx (DE v w g gr gE s en0 none 0 0 wb) := ⟨⟨(H.out.below HB1.out).below hb2, he2, World.ownsRow_nil _ _ _ _, HV1.out.step hb2, Kept.of_below (bstep HB1.out hb2), by rw [HGR.out]; exact H.out.lt, by rw [HGE.out]; exact HV1.out.lt, HGR.out.symm⟩⟩
  clear hb2 he2 HB2 HE2 HV1 HB1
  have HC : Bx (Calls Try.prog 25 #[.pointer (some ⟨g, 0, none⟩), .int .u64 63] wb (NmP v g (entR1 s) wb)) := ⟨number_any v g 63 s wb HD0.out.rd (by decide)⟩
  go_wp2_with fail
  refine HC.out.mono ?_
  rintro e w1 ⟨rfl, hs, hk⟩
  have hD := HD0.out.call hs hk
  have y := hD.en.c0
  have yf := hD.en.fr 0
  have HD1 : Bx (DE v w g gr gE (entR1 s).2 ⟨(entR1 s).1, 0, dg0, dg0, 0, 0, []⟩ none 0 0 (w1.setCell ⟨gE, 0, none⟩ (.int .i64 (entR1 s).1))) := ⟨hD.put (hD.en.setJ _) rfl⟩
  clear hs hk HC HD0 hD
  go_upto_region 3 with fail
  generalize w1.setCell ⟨gE, 0, none⟩ (.int .i64 (entR1 s).1) = wb1 at HD1 ⊢
  clear y yf
  have HC : Bx (Calls Try.prog 25 #[.pointer (some ⟨g, 0, none⟩), .int .u64 1099511627776] wb1 (NmP v g (entR2 s) wb1)) := ⟨number_any v g 1099511627776 (entR1 s).2 wb1 HD1.out.rd (by decide)⟩
  go_wp2_with fail
  refine HC.out.mono ?_
  rintro e w2 ⟨rfl, hs, hk⟩
  have hD := HD1.out.call hs hk
  have y := hD.en.c1
  have yf := hD.en.fr 1
  have HD2 : Bx (DE v w g gr gE (entR2 s).2 ⟨(entR1 s).1, (entR2 s).1, dg0, dg0, 0, 0, []⟩ none 0 0 (w2.setCell ⟨gE, 1, none⟩ (.int .i64 (entR2 s).1))) := ⟨hD.put (hD.en.setT _) rfl⟩
  clear hs hk HC HD1 hD
  go_upto_region 4 with fail
  generalize w2.setCell ⟨gE, 1, none⟩ (.int .i64 (entR2 s).1) = wb2 at HD2 ⊢
  clear y yf
  have HC : Bx (Calls Try.prog 26 #[.pointer (some ⟨g, 0, none⟩)] wb2 (DgP v g (entR3 s) wb2)) := ⟨digest20_any v g (entR2 s).2 wb2 HD2.out.rd⟩
  go_wp2_with fail
  refine HC.out.mono ?_
  rintro e w3 ⟨rfl, hs, hk⟩
  have hD := HD2.out.call hs hk
  have HDG : Bx (Dig (entR3 s).1) := ⟨digR_dig HD2.out.rd.byt⟩
  have HD3 : Bx (DE v w g gr gE (entR3 s).2 ⟨(entR1 s).1, (entR2 s).1, (entR3 s).1, dg0, 0, 0, []⟩ none 0 0 (w3.setCells gE 2 (bv (entR3 s).1).toArray.toList)) := ⟨hD.puts (hD.en.setH HDG.out) rfl⟩
  obtain ⟨D, HDD⟩ : ∃ D, Bx ((bv (entR3 s).1).toArray = D) := ⟨_, ⟨rfl⟩⟩
  rw [HDD.out] at HD3 ⊢
  have HDS : Bx (D.size = 32) := ⟨by rw [← HDD.out, List.size_toArray, bv_length, HDG.out.1]⟩
  have HDO : Bx (D.all (·.oneCell') = true) := ⟨by rw [← HDD.out]; exact all_oneCell_toArray (bv_one _)⟩
  have HDI : Bx ((Try.prog.info? 23).map (·.size) = some D.size) := ⟨by rw [HDS.out]; exact dgE_info⟩
  have HTH : Bx (w3.there gE 2 D.size) := ⟨by rw [HDS.out]; exact hD.en.thereAt 2 32 (by decide)⟩
  clear hs hk HC HD2 hD HDG
  go_upto_region 5 with (refine wpList_store_mid rfl 23 (.tmp 14) (.tmp 13) rfl gE 2 D rfl rfl HTH.out HDI.out HDO.out ?_)
  generalize w3.setCells gE 2 D.toList = wb3 at HD3 ⊢
  clear HTH HDI HDO HDS HDD
  have HC : Bx (Calls Try.prog 26 #[.pointer (some ⟨g, 0, none⟩)] wb3 (DgP v g (entR4 s) wb3)) := ⟨digest20_any v g (entR3 s).2 wb3 HD3.out.rd⟩
  go_wp2_with fail
  refine HC.out.mono ?_
  rintro e w4 ⟨rfl, hs, hk⟩
  have hD := HD3.out.call hs hk
  have HDG : Bx (Dig (entR4 s).1) := ⟨digR_dig HD3.out.rd.byt⟩
  have HD4 : Bx (DE v w g gr gE (entR4 s).2 ⟨(entR1 s).1, (entR2 s).1, (entR3 s).1, (entR4 s).1, 0, 0, []⟩ none 0 0 (w4.setCells gE 34 (bv (entR4 s).1).toArray.toList)) := ⟨hD.puts (hD.en.setS HDG.out) rfl⟩
  obtain ⟨D, HDD⟩ : ∃ D, Bx ((bv (entR4 s).1).toArray = D) := ⟨_, ⟨rfl⟩⟩
  rw [HDD.out] at HD4 ⊢
  have HDS : Bx (D.size = 32) := ⟨by rw [← HDD.out, List.size_toArray, bv_length, HDG.out.1]⟩
  have HDO : Bx (D.all (·.oneCell') = true) := ⟨by rw [← HDD.out]; exact all_oneCell_toArray (bv_one _)⟩
  have HDI : Bx ((Try.prog.info? 23).map (·.size) = some D.size) := ⟨by rw [HDS.out]; exact dgE_info⟩
  have HTH : Bx (w4.there gE 34 D.size) := ⟨by rw [HDS.out]; exact hD.en.thereAt 34 32 (by decide)⟩
  clear hs hk HC HD3 hD HDG
  go_upto_region 6 with (refine wpList_store_mid rfl 23 (.tmp 17) (.tmp 16) rfl gE 34 D rfl rfl HTH.out HDI.out HDO.out ?_)
  generalize w4.setCells gE 34 D.toList = wb4 at HD4 ⊢
  clear HTH HDI HDO HDS HDD
  have HC : Bx (Calls Try.prog 27 #[.pointer (some ⟨g, 0, none⟩)] wb4 (NmP v g (entR5 s) wb4)) := ⟨one20_any v g (entR4 s).2 wb4 HD4.out.rd⟩
  go_wp2_with fail
  refine HC.out.mono ?_
  rintro e w5 ⟨rfl, hs, hk⟩
  have hD := HD4.out.call hs hk
  have y := hD.en.c66
  have yf := hD.en.fr 66
  have HD5 : Bx (DE v w g gr gE (entR5 s).2 ⟨(entR1 s).1, (entR2 s).1, (entR3 s).1, (entR4 s).1, (entR5 s).1, 0, []⟩ none 0 0 (w5.setCell ⟨gE, 66, none⟩ (.int .i64 (entR5 s).1))) := ⟨hD.put (hD.en.setK _) rfl⟩
  clear hs hk HC HD4 hD
  go_upto_region 7 with fail
  generalize w5.setCell ⟨gE, 66, none⟩ (.int .i64 (entR5 s).1) = wb5 at HD5 ⊢
  clear y yf
  have HC : Bx (Calls Try.prog 25 #[.pointer (some ⟨g, 0, none⟩), .int .u64 1073741824] wb5 (NmP v g (entR6 s) wb5)) := ⟨number_any v g 1073741824 (entR5 s).2 wb5 HD5.out.rd (by decide)⟩
  go_wp2_with fail
  refine HC.out.mono ?_
  rintro e w6 ⟨rfl, hs, hk⟩
  have hD := HD5.out.call hs hk
  have y := hD.en.c68
  have yf := hD.en.fr 68
  have HD6 : Bx (DE v w g gr gE (entR6 s).2 ⟨(entR1 s).1, (entR2 s).1, (entR3 s).1, (entR4 s).1, (entR5 s).1, (entR6 s).1, []⟩ none 0 0 (w6.setCell ⟨gE, 68, none⟩ (.int .i64 (entR6 s).1))) := ⟨hD.put (hD.en.setR _) rfl⟩
  clear hs hk HC HD5 hD
  go_upto_region 8 with fail
  generalize w6.setCell ⟨gE, 68, none⟩ (.int .i64 (entR6 s).1) = wb6 at HD6 ⊢
  clear y yf
  have HC : Bx (Calls Try.prog 25 #[.pointer (some ⟨g, 0, none⟩), .int .u64 64] wb6 (NmP v g (entR7 s) wb6)) := ⟨number_any v g 64 (entR6 s).2 wb6 HD6.out.rd (by decide)⟩
  have hkb := numR_bd (m := 64) HD6.out.rd.byt (by decide)
  replace hkb : 0 ≤ (entR7 s).1 ∧ (entR7 s).1 ≤ 64 := hkb
  go_wp2_with fail
  refine HC.out.mono ?_
  rintro e w7 ⟨rfl, hs, hk⟩
  have HD7 := Bx.mk (HD6.out.call hs hk)
  clear hs hk HC HD6
  obtain ⟨k, HKE⟩ : ∃ k : Nat, Bx ((entR7 s).1 = (k : Int)) := ⟨(entR7 s).1.toNat, ⟨by omega⟩⟩
  have HR8 : Bx (entR8 s = takR k (entR7 s).2) := ⟨by unfold entR8; rw [HKE.out, Int.toNat_natCast]⟩
  rw [HKE.out] at hkb ⊢
  have hk64 : k ≤ 64 := by omega
  clear hkb
  have HC := Bx.mk (take20_any v g k (entR7 s).2 w7 HD7.out.rd (by omega))
  rw [← HR8.out] at HC
  go_wp2_with fail
  refine HC.out.mono ?_
  rintro e w8 ⟨at8, n8, c8, rfl, hbt, hs, hk⟩
  have HD8 := Bx.mk (HD7.out.call hs hk)
  have HBT := Bx.mk hbt
  have HTL : Bx ((entR8 s).1.length = n8) := ⟨hbt.len_eq⟩
  have hn8 : n8 ≤ 64 := by
    have := takR_len (k := k) (s := (entR7 s).2)
    rw [← HR8.out, HTL.out] at this; omega
  clear hs hk HC HD7 hbt
  go_wp2_with fail
  go_loopw [31] (fun i wr => ∃ (m : Nat) (ao : Option Addr) (co : Nat), m ≤ n8 ∧ i = .int .i64 m ∧ Bx (DE v w g gr gE (entR8 s).2 ⟨(entR1 s).1, (entR2 s).1, (entR3 s).1, (entR4 s).1, (entR5 s).1, (entR6 s).1, (entR8 s).1.take m⟩ ao m co wr)) (fun i _ => n8 - (intOf i).toNat)
  case atStart => exact ⟨0, none, 0, Nat.zero_le _, rfl, ⟨by rw [List.take_zero]; exact HD8.out⟩⟩
  case round =>
    clear HD8
    obtain ⟨m, ao, co, hml, rfl, HD⟩ := hrel
    by_cases hlt : m < n8
    · have hkI : (m : Int) < (n8 : Int) := by omega
      obtain ⟨b, off, rfl, _, hc⟩ := (HBT.out.below HD.out.rd.low).spot (by omega)
      have x0 := hc m hlt
      have hb0 := HBT.out.byt.getD m
      have HTK : Bx ((entR8 s).1.take (m + 1) = (entR8 s).1.take m ++ [(entR8 s).1.getD m 0]) := ⟨take_succ_getD _ m (by rw [HTL.out]; exact hlt)⟩
      have HTM : Bx (((entR8 s).1.take m).length = m) := ⟨by rw [List.length_take, HTL.out]; omega⟩
      generalize (entR8 s).1.getD m 0 = x at x0 hb0 HTK
      obtain ⟨x, rfl⟩ : ∃ y : Nat, x = y := ⟨x.toNat, by omega⟩
      have hx : x ≤ 255 := by omega
      have y7 := HD.out.en.c67
      have l7 : gE < wr.heap.size := HD.out.en.lt
      have hbA : Below wr.heap.size wr (wr.alloc (.cells #[.int .i64 (x : Int)] 3)) := (Below.refl _ _).alloc (Nat.le_refl _) _
      have HNW := Bx.mk (World.news_of_block (heap_alloc_new wr (.cells #[.int .i64 (x : Int)] 3)))
      have HOA := Bx.mk (HD.out.own.alloc (.cells #[.int .i64 (x : Int)] 3))
      have HBA : Bx (Below (gE + 1) wr (wr.alloc (.cells #[.int .i64 (x : Int)] 3))) := ⟨hbA.mono (by omega)⟩
      have HSZ : Bx (gE + 1 ≤ (wr.alloc (.cells #[.int .i64 (x : Int)] 3)).heap.size) := ⟨by have := hbA.size; omega⟩
      have HGO : Bx (∀ j, (Value.slice ao m co).ownBlock = some j → gE + 1 ≤ j) := ⟨HD.out.own_ge⟩
      clear hc hbA hb0 l7
      go_wp2_with (at_builtin; refine wpList_append_own _ rfl _ _ 24 rfl (gE + 1) 3 i0 (.int .i64 0) 1 8 Try.underlying24 hi hz0 hz1 hz2 rfl (by decide) _ m _ rfl HOA.out ⟨wr.heap.size, 0, none⟩ 1 1 [.int .i64 (x : Int)] rfl rfl HNW.out (by simp [Value.oneCell']) (by unfold maxLen; omega) (by omega) HSZ.out ?_)
      intro v9 w9 ho9 hg9 _
      obtain ⟨g9, c9, rfl, _, _⟩ := owns_form ho9 (by omega)
      have hb9 : Below (gE + 1) wr w9 := HBA.out.grown hg9 HSZ.out (fun j hj => HGO.out j hj)
      have HD9 : Bx (DE v w g gr gE (entR8 s).2 ⟨(entR1 s).1, (entR2 s).1, (entR3 s).1, (entR4 s).1, (entR5 s).1, (entR6 s).1, (entR8 s).1.take (m + 1)⟩ (some ⟨g9, 0, none⟩) (m + 1) c9 (w9.setCell ⟨gE, 67, none⟩ (.slice (some ⟨g9, 0, none⟩) (m + 1) c9))) := ⟨by
        refine HD.out.more HTK.out.symm hb9 ?_
        rw [HTK.out, List.flatMap_append]; exact ho9⟩
      have hE9 : EnB w9 gE _ _ _ _ := HD.out.en.keep (hb9.block gE (by omega))
      have y9 := hE9.c67
      have f9 := hE9.fr 67
      clear ho9 hg9 hb9 HNW HOA HBA HSZ HGO y7 x0 hE9 HD
      go_wp2_with fail
      go_roundw
      case rel => exact ⟨m + 1, some ⟨g9, 0, none⟩, c9, by omega, by go_num, HD9⟩
      case measure => simp [intOf]; omega
    · have hkI : ¬ (m : Int) < (n8 : Int) := by omega
      obtain rfl : m = n8 := by omega
      have HT : Bx ((⟨(entR1 s).1, (entR2 s).1, (entR3 s).1, (entR4 s).1, (entR5 s).1, (entR6 s).1, (entR8 s).1.take m⟩ : En) = entE s) := ⟨by rw [List.take_of_length_le (by rw [HTL.out]; omega)]; rfl⟩
      rw [HT.out] at HD
      have HDG : Bx (EnD (entE s)) := ⟨entE_dig HBYT.out⟩
      have HEN := Bx.mk HD.out.en
      have HTH : Bx (wr.there gr 0 (enA (entE s) ao m co).size) := ⟨HD.out.res.en_there HDG.out⟩
      have HSE : Bx (EnB (wr.setCells gr 0 (enA (entE s) ao m co).toList) gr (entE s) ao m co) := ⟨HD.out.res.en HDG.out⟩
      have HFIN : Bx (EnP v g s w (.returned (.agg (enA (entE s) ao m co))) (wr.setCells gr 0 (enA (entE s) ao m co).toList)) := ⟨by
        have l1 := HD.out.lt1
        have l2 := HD.out.lt2
        have l3 := HD.out.rd.ge
        refine ⟨ao, m, co, rfl, ?_, HD.out.rd.others (by omega) (by omega) 0 _, HD.out.kept.setCells (g := gr) (.inr (by rw [HD.out.ge]; exact Nat.le_refl _)) _ _⟩
        exact owns_setCells (owns_base HD.out.own (by rw [HD.out.ge]; omega)) (fun k hk => by have := HD.out.own_ge k hk; omega)⟩
      clear HD
      go_wp2_with (refine wpList_load_en rfl (.tmp 3) rfl rfl HEN.out ?_; refine wpList_store_mid rfl 28 (.tmp 2) (.tmp 45) rfl gr 0 (enA (entE s) ao m co) rfl rfl HTH.out (enA_info HDG.out) enA_one ?_)
      exact bodyPost_ret (v := .agg (enA (entE s) ao m co)) (results_cell_row rfl _ _ gr 28 (enA (entE s) ao m co) (0, 0) _ rfl HSE.out.row Try.underlying28 rfl (enA_info HDG.out)) rfl HFIN.out
end Go.Proofs.Ytlodbkjjkhpbaaa
