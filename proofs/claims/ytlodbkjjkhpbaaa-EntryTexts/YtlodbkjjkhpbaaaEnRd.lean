/- The reader: a number, so many bytes, one byte, a sum. -/
import Derived.Test.YtlodbkjjkhpbaaaEnCheck
import Derived.Test.YtlodbkjjkhpbaaaEntryRead
import Derived.Test.YtlodbkjjkhpbaaaVar
import Derived.Test.YtlodbkjjkhpbaaaSlc
import Derived.Laws.CopyOwn
namespace Go.Proofs.Ytlodbkjjkhpbaaa
open Go.RowKit
set_option linter.unusedVariables false

/-- a reader in memory: what is left of bytes that lay there before, and whether something was missing -/
structure RdS (v : World) (g : Nat) (s : Rs) (w : World) : Prop where
  row : ∃ a n c, w.heap[g]? = some (.cells #[.slice a n c, .bool s.2] 51 (0, 0)) ∧ Bts v a n c s.1
  low : Below v.heap.size v w
  ge : v.heap.size ≤ g
abbrev Own1 (g : Nat) : Nat → Prop := fun j => j = g
set_option maxRecDepth 100000 in
theorem RdS.lt {v w : World} {g : Nat} {s : Rs} (h : RdS v g s w) : g < w.heap.size := by
  obtain ⟨_, _, _, h1, _⟩ := h.row; exact (Array.getElem?_eq_some_iff.1 h1).1
set_option maxRecDepth 100000 in
theorem RdS.byt {v w : World} {g : Nat} {s : Rs} (h : RdS v g s w) : Byt s.1 := by
  obtain ⟨_, _, _, _, h2⟩ := h.row; exact h2.byt
set_option maxRecDepth 100000 in
theorem RdS.below {v w w' : World} {g : Nat} {s : Rs} (h : RdS v g s w) (hb : Below w.heap.size w w') : RdS v g s w' := by
  have hlt := h.lt
  obtain ⟨a, n, c, h1, h2⟩ := h.row
  exact ⟨⟨a, n, c, (hb.block g hlt).trans h1, h2⟩, bstep h.low hb, h.ge⟩
set_option maxRecDepth 100000 in
/-- another block, no elder one than the bytes, is written over -/
theorem RdS.apart {v w w' : World} {g B : Nat} {s : Rs} (h : RdS v g s w) (hb : Below B w w') (hB : g < B) : RdS v g s w' := by
  obtain ⟨a, n, c, h1, h2⟩ := h.row
  have := h.ge
  exact ⟨⟨a, n, c, (hb.block g hB).trans h1, h2⟩, h.low.trans (hb.mono (by omega)), h.ge⟩
set_option maxRecDepth 100000 in
theorem RdS.other {v w : World} {g g' : Nat} {s : Rs} (h : RdS v g s w) (hg : v.heap.size ≤ g') (hne : g ≠ g') (o : Nat) (x : Value) : RdS v g s (w.setCell ⟨g', o, none⟩ x) := by
  obtain ⟨a, n, c, h1, h2⟩ := h.row
  exact ⟨⟨a, n, c, (heap_setCell_other w ⟨g', o, none⟩ g x hne).trans h1, h2⟩, h.low.setCell (p := ⟨g', o, none⟩) hg _, h.ge⟩
set_option maxRecDepth 100000 in
theorem RdS.others {v w : World} {g g' : Nat} {s : Rs} (h : RdS v g s w) (hg : v.heap.size ≤ g') (hne : g ≠ g') (o : Nat) (xs : List Value) : RdS v g s (w.setCells g' o xs) := by
  obtain ⟨a, n, c, h1, h2⟩ := h.row
  exact ⟨⟨a, n, c, (setCells_other hne xs o).trans h1, h2⟩, below_setCells h.low g' hg xs o, h.ge⟩
set_option maxRecDepth 100000 in
theorem rds_left {v w : World} {g : Nat} {a : Option Addr} {n c : Nat} {f : Bool} {l : List Int} {a' : Option Addr} {n' c' : Nat} (h1 : w.heap[g]? = some (.cells #[.slice a n c, .bool f] 51 (0, 0))) (hl : Below v.heap.size v w) (hg : v.heap.size ≤ g) (h2 : Bts v a' n' c' l) : RdS v g (l, f) (w.setCell ⟨g, 0, none⟩ (.slice a' n' c')) :=
  ⟨⟨a', n', c', heap_setCell_same w g 0 _ _ _ h1, h2⟩, hl.setCell (p := ⟨g, 0, none⟩) hg _, hg⟩
set_option maxRecDepth 100000 in
theorem rds_bad {v w : World} {g : Nat} {a : Option Addr} {n c : Nat} {f : Bool} {l : List Int} (h1 : w.heap[g]? = some (.cells #[.slice a n c, .bool f] 51 (0, 0))) (hl : Below v.heap.size v w) (hg : v.heap.size ≤ g) (h2 : Bts v a n c l) : RdS v g (l, true) (w.setCell ⟨g, 1, none⟩ (.bool true)) :=
  ⟨⟨a, n, c, heap_setCell_same w g 1 _ _ _ h1, h2⟩, hl.setCell (p := ⟨g, 1, none⟩) hg _, hg⟩
set_option maxRecDepth 100000 in
theorem Kept.of_low {w w' : World} {B : Nat} (h : Below B w w') (k : Nat) (hk : k ≤ B) : Kept (fun j => B ≤ j) w w' := ⟨h.os, h.tape, h.output, h.size, fun j hj hn => h.block j (by omega)⟩
/-- how a read number ends -/
def NmP (v : World) (g : Nat) (r : Int × Rs) (w : World) (x : Ending) (w' : World) : Prop := x = .returned (.int .i64 r.1) ∧ RdS v g r.2 w' ∧ Kept (Own1 g) w w'
set_option maxRecDepth 100000 in
theorem numR_yes {m : Int} {l : List Int} {f : Bool} (h1 : (rd l 0 0).2.2 = 0) (h2 : (rd l 0 0).1 ≤ m) : numR m (l, f) = ((rd l 0 0).1, (l.drop (rdn l), f)) := by unfold numR; rw [if_pos ⟨h1, h2⟩]
set_option maxRecDepth 100000 in
theorem numR_no {m : Int} {l : List Int} {f : Bool} (h : ¬ ((rd l 0 0).2.2 = 0 ∧ (rd l 0 0).1 ≤ m)) : numR m (l, f) = (0, (l, true)) := by unfold numR; rw [if_neg h]
set_option maxRecDepth 100000 in
theorem kept_own1 (g : Nat) (w : World) (o : Nat) (x : Value) : Kept (Own1 g) w (w.setCell ⟨g, o, none⟩ x) := (Kept.refl (fun j => j = g) w).setCell (own := fun j => j = g) (g := g) (Or.inl (Eq.refl g)) _ _
set_option maxRecDepth 100000 in
theorem nmp_of {v w w' : World} {g : Nat} {r : Int × Rs} {x : Int} {s : Rs} (h : r = (x, s)) (h1 : RdS v g s w') (h2 : Kept (Own1 g) w w') : NmP v g r w (.returned (.int .i64 x)) w' := by subst h; exact ⟨rfl, h1, h2⟩
set_option maxHeartbeats 4000000 in
set_option maxRecDepth 100000 in
theorem number_any (v : World) (g m : Nat) (s : Rs) (w : World) (h : RdS v g s w) (hm : m ≤ 1099511627776) :
    Calls Try.prog 25 #[.pointer (some ⟨g, 0, none⟩), .int .u64 (m : Int)] w (NmP v g (numR m s) w) := by
  obtain ⟨l, f⟩ := s
  obtain ⟨a, n, c, h1, h2⟩ := h.row
  have HBT := Bx.mk h2
  have HRW := Bx.mk h1
  have HLO := Bx.mk h.low
  have HGE := Bx.mk h.ge
  have HW := Bx.mk (h2.below h.low)
  have y0 := cell_of_row _ g 0 _ _ (0, 0) h1
  have y1 := cell_of_row _ g 1 _ _ (0, 0) h1
  have f0 := frozen_of_row _ g 0 _ _ h1
  have f1 := frozen_of_row _ g 1 _ _ h1
  have HUB := Bx.mk (rd_bd l 0 0 h2.byt (by omega) (by omega) (by decide))
  have hbd := rdn_bd h2.byt
  have hle := hbd.1
  rw [h2.len_eq] at hle
  have hsl := run_sl_l a n c (rdn l) (rd l 0 0).2.1 hbd.2 hle
  have HRS := Bx.mk (h2.rest (rdn l) hle)
  generalize slA a (rdn l) c = a' at hsl HRS
  obtain ⟨r0, HR0⟩ : ∃ r0, Bx (numR m (l, f) = r0) := ⟨_, ⟨rfl⟩⟩
  rw [HR0.out]
  have HYES : Bx ((rd l 0 0).2.2 = 0 → (rd l 0 0).1 ≤ m → numR m (l, f) = ((rd l 0 0).1, (l.drop (rdn l), f))) := ⟨numR_yes⟩
  have HNO : Bx (¬ ((rd l 0 0).2.2 = 0 ∧ (rd l 0 0).1 ≤ m) → numR m (l, f) = (0, (l, true))) := ⟨numR_no⟩
  clear h1 h2 hbd hle h
  go_enter Try.func25, Try.ntmps25
  go_wp2_with fail
  refine (readvar_any a n c l _ HW.out).mono ?_
  rintro e wz ⟨rfl, hwz⟩
  subst hwz
  unfold rdVal
  generalize (rd l 0 0).2.1 = p at hsl
  generalize (rd l 0 0).1 = u at HUB HYES HNO
  generalize (rd l 0 0).2.2 = re at HYES HNO
  have hu := HUB.out.1
  obtain ⟨u, rfl⟩ : ∃ k : Nat, u = k := ⟨u.toNat, by omega⟩
  by_cases hre : re = 0
  · subst hre
    go_wp2_with fail
    refine (within_u64 (u : Int) 0 (m : Int) _).mono ?_
    rintro e wz ⟨rfl, hwz⟩
    subst hwz
    by_cases hum : u ≤ m
    · have hin : wIn (u : Int) 0 (m : Int) = true := wIn_iff.2 ⟨by omega, by omega⟩
      rw [hin]
      clear hin
      have HR1 : Bx (r0 = ((u : Int), (l.drop (rdn l), f))) := ⟨by rw [← HR0.out]; exact HYES.out (by first | rfl | trivial) (by omega)⟩
      have HST : Bx (RdS v g (l.drop (rdn l), f) (w.setCell ⟨g, 0, none⟩ (.slice a' (n - rdn l) (c - rdn l)))) := ⟨rds_left HRW.out HLO.out HGE.out HRS.out⟩
      have HKP : Bx (Kept (Own1 g) w (w.setCell ⟨g, 0, none⟩ (.slice a' (n - rdn l) (c - rdn l)))) := ⟨kept_own1 g w _ _⟩
      clear HYES HNO
      go_wp2_with fail
      go_ret
      exact nmp_of HR1.out HST.out HKP.out
    · have hin : wIn (u : Int) 0 (m : Int) = false := wIn_no.2 (by omega)
      rw [hin]
      clear hin
      replace HR0 : Bx (r0 = (0, (l, true))) := ⟨by rw [← HR0.out]; exact HNO.out (fun h => by have := h.2; omega)⟩
      clear HYES HNO hsl
      have HST : Bx (RdS v g (l, true) (w.setCell ⟨g, 1, none⟩ (.bool true))) := ⟨rds_bad HRW.out HLO.out HGE.out HBT.out⟩
      have HKP : Bx (Kept (Own1 g) w (w.setCell ⟨g, 1, none⟩ (.bool true))) := ⟨kept_own1 g w _ _⟩
      go_wp2_with fail
      go_ret
      exact nmp_of HR0.out HST.out HKP.out
  · have hq : (re != 0) = true := by simpa using hre
    replace HR0 : Bx (r0 = (0, (l, true))) := ⟨by rw [← HR0.out]; exact HNO.out (fun h => hre h.1)⟩
    clear HYES HNO hsl hre
    have HST : Bx (RdS v g (l, true) (w.setCell ⟨g, 1, none⟩ (.bool true))) := ⟨rds_bad HRW.out HLO.out HGE.out HBT.out⟩
    have HKP : Bx (Kept (Own1 g) w (w.setCell ⟨g, 1, none⟩ (.bool true))) := ⟨kept_own1 g w _ _⟩
    go_wp2_with fail
    go_ret
    exact nmp_of HR0.out HST.out HKP.out
/-- how bytes that are taken end -/
def TkP (v : World) (g : Nat) (r : List Int × Rs) (w : World) (x : Ending) (w' : World) : Prop := ∃ a n c, x = .returned (.slice a n c) ∧ Bts v a n c r.1 ∧ RdS v g r.2 w' ∧ Kept (Own1 g) w w'
set_option maxRecDepth 100000 in
theorem tkp_of {v w w' : World} {g : Nat} {r : List Int × Rs} {a : Option Addr} {n c : Nat} {t : List Int} {s : Rs} (h : r = (t, s)) (h0 : Bts v a n c t) (h1 : RdS v g s w') (h2 : Kept (Own1 g) w w') : TkP v g r w (.returned (.slice a n c)) w' := by subst h; exact ⟨a, n, c, rfl, h0, h1, h2⟩
set_option maxRecDepth 100000 in
theorem bts_nil (v : World) : Bts v none 0 0 [] := ⟨rfl, Byt.nil, Nat.le_refl _, Nat.zero_le _, fun _ => rfl, fun hp => absurd hp (Nat.lt_irrefl _)⟩
set_option maxHeartbeats 4000000 in
set_option maxRecDepth 100000 in
theorem take20_any (v : World) (g k : Nat) (s : Rs) (w : World) (h : RdS v g s w) (hk : k ≤ 1000) :
    Calls Try.prog 28 #[.pointer (some ⟨g, 0, none⟩), .int .i64 (k : Int)] w (TkP v g (takR k s) w) := by
  obtain ⟨l, f⟩ := s
  obtain ⟨a, n, c, h1, h2⟩ := h.row
  have HBT := Bx.mk h2
  have HRW := Bx.mk h1
  have HLO := Bx.mk h.low
  have HGE := Bx.mk h.ge
  have HLEN : Bx (l.length = n) := ⟨h2.len_eq⟩
  have hcm := h2.cap_le
  have hlc := h2.le_cap
  unfold maxLen at hcm
  have y0 := cell_of_row _ g 0 _ _ (0, 0) h1
  have y1 := cell_of_row _ g 1 _ _ (0, 0) h1
  have f0 := frozen_of_row _ g 0 _ _ h1
  have f1 := frozen_of_row _ g 1 _ _ h1
  obtain ⟨r0, HR0⟩ : ∃ r0, Bx (takR k (l, f) = r0) := ⟨_, ⟨rfl⟩⟩
  rw [HR0.out]
  clear h1 h2 h
  by_cases hkn : k ≤ n
  · have HR1 : Bx (r0 = (l.take k, (l.drop k, f))) := ⟨by rw [← HR0.out]; unfold takR; rw [if_pos (by rw [HLEN.out]; exact hkn)]⟩
    have hkI : ¬ (n : Int) < (k : Int) := by omega
    have hs1 := run_sl_h a n c k (k : Int) rfl (by omega)
    have hs2 := run_sl_l a n c k (k : Int) rfl hkn
    have HT := Bx.mk (HBT.out.piece 0 k (Nat.zero_le _) hkn)
    have HRS := Bx.mk (HBT.out.rest k hkn)
    rw [Nat.sub_zero, Nat.sub_zero, List.drop_zero] at HT
    generalize slA a 0 c = a0 at hs1 HT
    generalize slA a k c = a1 at hs2 HRS
    have HST : Bx (RdS v g (l.drop k, f) (w.setCell ⟨g, 0, none⟩ (.slice a1 (n - k) (c - k)))) := ⟨rds_left HRW.out HLO.out HGE.out HRS.out⟩
    have HKP : Bx (Kept (Own1 g) w (w.setCell ⟨g, 0, none⟩ (.slice a1 (n - k) (c - k)))) := ⟨kept_own1 g w _ _⟩
    clear hkn
    go_enter Try.func28, Try.ntmps28
    go_wp2_with fail
    go_ret
    exact tkp_of HR1.out HT.out HST.out HKP.out
  · have HR1 : Bx (r0 = ([], (l, true))) := ⟨by rw [← HR0.out]; unfold takR; rw [if_neg (by rw [HLEN.out]; exact hkn)]⟩
    have hkI : (n : Int) < (k : Int) := by omega
    have HST : Bx (RdS v g (l, true) (w.setCell ⟨g, 1, none⟩ (.bool true))) := ⟨rds_bad HRW.out HLO.out HGE.out HBT.out⟩
    have HKP : Bx (Kept (Own1 g) w (w.setCell ⟨g, 1, none⟩ (.bool true))) := ⟨kept_own1 g w _ _⟩
    clear hkn
    go_enter Try.func28, Try.ntmps28
    go_wp2_with fail
    go_ret
    exact tkp_of HR1.out (bts_nil v) HST.out HKP.out
set_option maxHeartbeats 4000000 in
set_option maxRecDepth 100000 in
theorem one20_any (v : World) (g : Nat) (s : Rs) (w : World) (h : RdS v g s w) :
    Calls Try.prog 27 #[.pointer (some ⟨g, 0, none⟩)] w (NmP v g (oneR s) w) := by
  have H := Bx.mk h
  obtain ⟨r0, HR0⟩ : ∃ r0, Bx (oneR s = r0) := ⟨_, ⟨rfl⟩⟩
  rw [HR0.out]
  have HBK : Bx ((takR 1 s).2.2 = false → (takR 1 s).1.length = 1) := ⟨fun h => (takR_back h).2.1⟩
  have HOE : Bx (oneR s = (if (takR 1 s).2.2 = true then 0 else (takR 1 s).1.getD 0 0, (takR 1 s).2)) := ⟨rfl⟩
  clear h
  go_enter Try.func27, Try.ntmps27
  go_wp2_with fail
  refine (take20_any v g 1 s _ H.out (by decide)).mono ?_
  rintro e w1 ⟨a, n, c, rfl, hb, hs, hk⟩
  obtain ⟨⟨t, ⟨l, f⟩⟩, HT⟩ : ∃ q, Bx (takR 1 s = q) := ⟨_, ⟨rfl⟩⟩
  rw [HT.out] at hb hs HBK HOE
  obtain ⟨a2, n2, c2, hr2, _⟩ := hs.row
  have y1 := cell_of_row _ g 1 _ _ (0, 0) hr2
  simp only at y1 HBK HOE
  have HB := Bx.mk hb
  have HS := Bx.mk hs
  have HK := Bx.mk hk
  clear hr2 hb hs hk
  cases f with
  | true =>
    have HR1 : Bx (r0 = (0, (l, true))) := ⟨by rw [← HR0.out, HOE.out]; rfl⟩
    go_wp2_with fail
    go_ret
    exact nmp_of HR1.out HS.out HK.out
  | false =>
    have hl1 := HBK.out rfl
    have HR1 : Bx (r0 = (t.getD 0 0, (l, false))) := ⟨by rw [← HR0.out, HOE.out]; rfl⟩
    have hn1 : n = 1 := by rw [← HB.out.len_eq]; exact hl1
    obtain ⟨b, off, rfl, _, hc⟩ := (HB.out.below HS.out.low).spot (by omega)
    have x0 := hc 0 (by omega)
    rw [Nat.add_zero] at x0
    have hb0 := HB.out.byt.getD 0
    generalize t.getD 0 0 = x at x0 hb0 HR1
    subst hn1
    clear hc hl1
    go_wp2_with fail
    go_ret
    exact nmp_of HR1.out HS.out HK.out
set_option maxRecDepth 100000 in
theorem fill_splice {t : List Int} (h : t.length ≤ 32) : splice (bv dg0) 0 (bv t) = bv (fill t) := by
  unfold splice fill dg0
  rw [List.take_zero, List.nil_append, Nat.zero_add, bv_append, bv_length]
  congr 1
  unfold bv
  rw [← List.map_drop, List.drop_replicate]
/-- how a sum that is read ends -/
def DgP (v : World) (g : Nat) (r : List Int × Rs) (w : World) (x : Ending) (w' : World) : Prop := x = .returned (.agg (bv r.1).toArray) ∧ RdS v g r.2 w' ∧ Kept (Own1 g) w w'
set_option maxRecDepth 100000 in
theorem Try.sizeE5 : (Try.prog.info? 5).map (·.size) = some 1 := by kernel_rfl
set_option maxRecDepth 100000 in
theorem dg0_cells : (#[.int .u8 0, .int .u8 0, .int .u8 0, .int .u8 0, .int .u8 0, .int .u8 0, .int .u8 0, .int .u8 0, .int .u8 0, .int .u8 0, .int .u8 0, .int .u8 0, .int .u8 0, .int .u8 0, .int .u8 0, .int .u8 0, .int .u8 0, .int .u8 0, .int .u8 0, .int .u8 0, .int .u8 0, .int .u8 0, .int .u8 0, .int .u8 0, .int .u8 0, .int .u8 0, .int .u8 0, .int .u8 0, .int .u8 0, .int .u8 0, .int .u8 0, .int .u8 0] : Array Value) = (bv dg0).toArray := rfl
set_option maxRecDepth 100000 in
theorem cpE_min {v : World} {a : Option Addr} {n c : Nat} {t : List Int} (hb : Bts v a n c t) (h : t.length ≤ 32) : (bv t).length = Nat.min n 32 := by
  have := hb.len_eq
  rw [bv_length, show Nat.min n 32 = min n 32 from rfl]; omega
set_option maxRecDepth 100000 in
theorem cpE_pos {v w : World} {a : Option Addr} {n c g : Nat} {t : List Int} (hb : Bts v a n c t) (hl : Below v.heap.size v w) : 0 < (bv t).length → some (⟨g, 0, none⟩ : Addr) = some ⟨g, 0, none⟩ ∧ ∃ ad, a = some ad ∧ ∀ j u, (bv t)[j]? = some u → w.cell? (ad.add j) = some u := fun h => by
  refine ⟨rfl, ?_⟩
  have hb2 := hb.below hl
  rw [bv_length, hb.len_eq] at h
  obtain ⟨b, off, rfl, _, _⟩ := hb2.spot h
  exact ⟨_, rfl, hb2.cells⟩
set_option maxHeartbeats 4000000 in
set_option maxRecDepth 100000 in
theorem digest20_any (v : World) (g : Nat) (s : Rs) (w : World) (h : RdS v g s w) :
    Calls Try.prog 26 #[.pointer (some ⟨g, 0, none⟩)] w (DgP v g (digR s) w) := by
  obtain ⟨gr, HGR⟩ : ∃ gr, Bx (gr = w.heap.size) := ⟨_, ⟨rfl⟩⟩
  have hb1 : Below w.heap.size w (w.alloc (.cells #[.int .u8 0, .int .u8 0, .int .u8 0, .int .u8 0, .int .u8 0, .int .u8 0, .int .u8 0, .int .u8 0, .int .u8 0, .int .u8 0, .int .u8 0, .int .u8 0, .int .u8 0, .int .u8 0, .int .u8 0, .int .u8 0, .int .u8 0, .int .u8 0, .int .u8 0, .int .u8 0, .int .u8 0, .int .u8 0, .int .u8 0, .int .u8 0, .int .u8 0, .int .u8 0, .int .u8 0, .int .u8 0, .int .u8 0, .int .u8 0, .int .u8 0, .int .u8 0] 23)) := (Below.refl _ _).alloc (Nat.le_refl _) _
  have hv1 : NV 23 32 w.heap.size w.heap.size (w.alloc (.cells #[.int .u8 0, .int .u8 0, .int .u8 0, .int .u8 0, .int .u8 0, .int .u8 0, .int .u8 0, .int .u8 0, .int .u8 0, .int .u8 0, .int .u8 0, .int .u8 0, .int .u8 0, .int .u8 0, .int .u8 0, .int .u8 0, .int .u8 0, .int .u8 0, .int .u8 0, .int .u8 0, .int .u8 0, .int .u8 0, .int .u8 0, .int .u8 0, .int .u8 0, .int .u8 0, .int .u8 0, .int .u8 0, .int .u8 0, .int .u8 0, .int .u8 0, .int .u8 0] 23)) := NV.new (Nat.le_refl _) rfl
  rw [← HGR.out] at hv1
  have HS1 := Bx.mk (h.below hb1)
  have HB1 := Bx.mk hb1
  have HV1 := Bx.mk hv1
  have hglt := h.lt
  have HNE : Bx (g < gr) := ⟨by rw [HGR.out]; exact hglt⟩
  have HVL : Bx (v.heap.size ≤ g) := ⟨h.ge⟩
  have HDE : Bx (digR s = (fill (takR 32 s).1, (takR 32 s).2)) := ⟨rfl⟩
  obtain ⟨r0, HR0⟩ : ∃ r0, Bx (digR s = r0) := ⟨_, ⟨rfl⟩⟩
  rw [HR0.out]
  have HTL : Bx ((takR 32 s).1.length ≤ 32) := ⟨takR_len⟩
  have HBYT := Bx.mk h.byt
  clear h hb1 hv1 hglt
  go_enter Try.func26, Try.ntmps26
  go_upto_region 1 with fail
  rw [← HGR.out]
  generalize w.alloc (.cells #[.int .u8 0, .int .u8 0, .int .u8 0, .int .u8 0, .int .u8 0, .int .u8 0, .int .u8 0, .int .u8 0, .int .u8 0, .int .u8 0, .int .u8 0, .int .u8 0, .int .u8 0, .int .u8 0, .int .u8 0, .int .u8 0, .int .u8 0, .int .u8 0, .int .u8 0, .int .u8 0, .int .u8 0, .int .u8 0, .int .u8 0, .int .u8 0, .int .u8 0, .int .u8 0, .int .u8 0, .int .u8 0, .int .u8 0, .int .u8 0, .int .u8 0, .int .u8 0] 23) = wa at HS1 HB1 HV1 ⊢
  obtain ⟨gd, HGD⟩ : ∃ gd, Bx (gd = wa.heap.size) := ⟨_, ⟨rfl⟩⟩
  have hb2 : Below wa.heap.size wa (wa.alloc (.cells #[.int .u8 0, .int .u8 0, .int .u8 0, .int .u8 0, .int .u8 0, .int .u8 0, .int .u8 0, .int .u8 0, .int .u8 0, .int .u8 0, .int .u8 0, .int .u8 0, .int .u8 0, .int .u8 0, .int .u8 0, .int .u8 0, .int .u8 0, .int .u8 0, .int .u8 0, .int .u8 0, .int .u8 0, .int .u8 0, .int .u8 0, .int .u8 0, .int .u8 0, .int .u8 0, .int .u8 0, .int .u8 0, .int .u8 0, .int .u8 0, .int .u8 0, .int .u8 0] 23)) := (Below.refl _ _).alloc (Nat.le_refl _) _
  have hr2 := heap_alloc_new wa (.cells #[.int .u8 0, .int .u8 0, .int .u8 0, .int .u8 0, .int .u8 0, .int .u8 0, .int .u8 0, .int .u8 0, .int .u8 0, .int .u8 0, .int .u8 0, .int .u8 0, .int .u8 0, .int .u8 0, .int .u8 0, .int .u8 0, .int .u8 0, .int .u8 0, .int .u8 0, .int .u8 0, .int .u8 0, .int .u8 0, .int .u8 0, .int .u8 0, .int .u8 0, .int .u8 0, .int .u8 0, .int .u8 0, .int .u8 0, .int .u8 0, .int .u8 0, .int .u8 0] 23)
  rw [← HGD.out] at hr2
  have HRD : Bx ((wa.alloc (.cells #[.int .u8 0, .int .u8 0, .int .u8 0, .int .u8 0, .int .u8 0, .int .u8 0, .int .u8 0, .int .u8 0, .int .u8 0, .int .u8 0, .int .u8 0, .int .u8 0, .int .u8 0, .int .u8 0, .int .u8 0, .int .u8 0, .int .u8 0, .int .u8 0, .int .u8 0, .int .u8 0, .int .u8 0, .int .u8 0, .int .u8 0, .int .u8 0, .int .u8 0, .int .u8 0, .int .u8 0, .int .u8 0, .int .u8 0, .int .u8 0, .int .u8 0, .int .u8 0] 23)).heap[gd]? = some (.cells (bv dg0).toArray 23 (0, 0))) := ⟨by rw [hr2]; rfl⟩
  have HS2 := Bx.mk (HS1.out.below hb2)
  have HB2 := Bx.mk (bstep HB1.out hb2)
  have HV2 := Bx.mk (HV1.out.step hb2)
  have HND : Bx (gr < gd) := ⟨by rw [HGD.out]; exact HV1.out.lt⟩
  clear hb2 hr2 HS1 HB1 HV1
  go_upto_region 2 with fail
  rw [← HGD.out]
  generalize wa.alloc (.cells #[.int .u8 0, .int .u8 0, .int .u8 0, .int .u8 0, .int .u8 0, .int .u8 0, .int .u8 0, .int .u8 0, .int .u8 0, .int .u8 0, .int .u8 0, .int .u8 0, .int .u8 0, .int .u8 0, .int .u8 0, .int .u8 0, .int .u8 0, .int .u8 0, .int .u8 0, .int .u8 0, .int .u8 0, .int .u8 0, .int .u8 0, .int .u8 0, .int .u8 0, .int .u8 0, .int .u8 0, .int .u8 0, .int .u8 0, .int .u8 0, .int .u8 0, .int .u8 0] 23) = wb at HS2 HB2 HV2 HRD ⊢
  have hsl := dg_at gd 0
  have HSD : Bx (RdS v g s wb.drew) := ⟨HS2.out.below ⟨rfl, rfl, rfl, Nat.le_refl _, fun _ _ => rfl⟩⟩
  have HVD : Bx (NV 23 32 gr gr wb.drew) := ⟨⟨HV2.out.ge, HV2.out.row⟩⟩
  have HRDD : Bx (wb.drew.heap[gd]? = some (.cells (bv dg0).toArray 23 (0, 0))) := HRD
  have HBD : Bx (Kept (Own1 g) w wb.drew) := ⟨(Kept.of_below HB2.out).drew⟩
  have HTK := Bx.mk (take20_any v g 32 s wb.drew HSD.out (by decide))
  generalize takR 32 s = q at HTK HDE HTL
  obtain ⟨t, s'⟩ := q
  simp only at HDE HTL
  clear HSD HS2 HB2 HV2 HRD
  go_wp2_with fail
  go_region_held3 (fun _ => True) (trivial) (first | (go_at_call 28; refine HTK.out.mono ?_; rintro e w3 ⟨a3, n3, c3, rfl, hbt3, hs3, hk3⟩; have hg3 := (hk3.block gd (Array.getElem?_eq_some_iff.1 HRDD.out).1 (fun e => by have h1 := HND.out; have h2 := HNE.out; simp only [Own1] at e; omega)).trans HRDD.out) | (refine step_copy_splice rfl (.tmp 4) (.tmp 6) 29 29 rfl 5 Try.underlying29 Try.sizeE5 _ _ _ _ _ _ (by rfl) (by rfl) gd 0 (bv dg0) 23 hg3 (bv t) (cpE_min hbt3 HTL.out) (cpE_pos hbt3 hs3.low) (by rw [bv_length, bv_length]; have := HTL.out; unfold dg0; rw [List.length_replicate]; omega) (bv_one _) gd w3 (Below.refl _ _) (Nat.le_refl _) ?_; intro w4 hg4 hb4))
  have HS4 := Bx.mk (hs3.apart hb4 (by have h1 := HND.out; have h2 := HNE.out; omega))
  have HG4 : Bx (w4.heap[gd]? = some (.cells (bv (fill t)).toArray 23 (0, 0))) := ⟨by have := hg4.out; rw [fill_splice HTL.out] at this; exact this⟩
  have HV4 : Bx (NV 23 32 gr gr w4) := ⟨by
    obtain ⟨hge, cs, hcs, hrow⟩ := HVD.out
    have hlt := (Array.getElem?_eq_some_iff.1 hrow).1
    exact ⟨hge, cs, hcs, (hb4.block gr HND.out).trans ((hk3.block gr hlt (fun e => by have h2 := HNE.out; simp only [Own1] at e; omega)).trans hrow)⟩⟩
  have HK4 : Bx (Kept (Own1 g) w w4) := ⟨(HBD.out.trans' hk3).trans (Kept.of_low hb4 0 (Nat.zero_le _)) (fun k h => .inr (by have h1 := HND.out; rw [HGR.out] at h1; omega))⟩
  clear hg4 hb4 hg3 hs3 hk3 hbt3 HTK HRDD HVD HBD hsl
  have HFD : Bx (Dig (fill t)) := ⟨by rw [show fill t = (digR s).1 from by rw [HDE.out]]; exact digR_dig HBYT.out⟩
  obtain ⟨D, HDD⟩ : ∃ D, Bx ((bv (fill t)).toArray = D) := ⟨_, ⟨rfl⟩⟩
  rw [HDD.out] at HG4
  have HDS : Bx (D.size = 32) := ⟨by rw [← HDD.out, List.size_toArray, bv_length, HFD.out.1]⟩
  have HDO : Bx (D.all (·.oneCell') = true) := ⟨by rw [← HDD.out]; exact all_oneCell_toArray (bv_one _)⟩
  have HDI : Bx ((Try.prog.info? 23).map (·.size) = some D.size) := ⟨by rw [HDS.out]; exact dgE_info⟩
  have HTH := Bx.mk (HV4.out.there HDS.out)
  have HST := Bx.mk (HV4.out.put HDS.out)
  have HSF := Bx.mk (HS4.out.others (g' := gr) (by have h1 := HVL.out; have h2 := HNE.out; omega) (by have h2 := HNE.out; omega) 0 D.toList)
  have HKF : Bx (Kept (Own1 g) w (w4.setCells gr 0 D.toList)) := ⟨HK4.out.setCells (g := gr) (.inr (by rw [HGR.out]; exact Nat.le_refl _)) _ _⟩
  have HFIN : Bx (DgP v g r0 w (.returned (.agg D)) (w4.setCells gr 0 D.toList)) := ⟨by rw [← HR0.out, HDE.out]; exact ⟨by rw [HDD.out], HSF.out, HKF.out⟩⟩
  clear HS4 HV4 HK4
  go_wp2_with (refine wpList_load_row rfl 23 (.tmp 3) rfl gd rfl 23 D (0, 0) _ HG4.out Try.underlying23 rfl HDI.out ?_; refine wpList_store_mid rfl 23 (.tmp 2) (.tmp 8) rfl gr 0 D rfl rfl HTH.out HDI.out HDO.out ?_)
  exact bodyPost_ret (v := .agg D) (results_cell_row rfl _ _ gr 23 D (0, 0) _ rfl HST.out Try.underlying23 rfl HDI.out) rfl HFIN.out
end Go.Proofs.Ytlodbkjjkhpbaaa
