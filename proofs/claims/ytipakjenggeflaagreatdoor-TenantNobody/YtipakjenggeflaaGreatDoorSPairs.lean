/- The iterator over a store's pairs. -/
import Derived.Test.YtipakjenggeflaaGreatDoorPkat
import Derived.RangeFuncNested
import Derived.RangeFuncBound
import Derived.RangeFuncCalls
import Derived.RangeFuncLeaves
import Derived.RangeFuncBox
import Derived.Shelf.Abstract
import Derived.Shelf.RegionOpen
import Derived.OwnWalkIn
import Derived.TacticsInMore
import Derived.LoopNIn
import Derived.LoopIn
import Derived.Maps.RangeRun
import Derived.Maps.AppendAt
namespace Go.Proofs.YtipakjenggeflaaGreatDoor
open Go.RowKit Go.Shelf Go.MapKept
open Go.ChangeMaps (setBlock)
attribute [local go_sem] Oper.semAt_some

/-- which entries have come: by their places -/
def PK (es : Array MapEntry) (Z : List (It Pr)) (seen : Array Nat) (pre : List (It Pr)) : Prop :=
  ∃ ps : List Nat, ps.Nodup ∧ (∀ i ∈ ps, i < Z.length) ∧ pre = ps.filterMap (fun i => Z[i]?) ∧ ∀ i e, es.toList[i]? = some e → (seen.contains e.born = true ↔ i ∈ ps)
set_option maxRecDepth 100000 in
theorem PK.nil (es : Array MapEntry) (Z : List (It Pr)) : PK es Z #[] [] := ⟨[], by simp, by simp, rfl, by simp⟩
set_option maxRecDepth 100000 in
theorem fm_length {Z : List (It Pr)} : ∀ {ps : List Nat}, (∀ i ∈ ps, i < Z.length) → (ps.filterMap (fun i => Z[i]?)).length = ps.length
  | [], _ => rfl
  | i :: t, h => by
    have hi := h i (by simp)
    rw [List.filterMap_cons, List.getElem?_eq_getElem hi]
    have ih := fm_length (Z := Z) (ps := t) (fun j hj => h j (List.mem_cons_of_mem _ hj))
    simp [ih]
set_option maxRecDepth 100000 in
theorem PK.length {es : Array MapEntry} {Z : List (It Pr)} {seen : Array Nat} {pre : List (It Pr)} (h : PK es Z seen pre) : pre.length ≤ Z.length := by
  obtain ⟨ps, h1, h2, rfl, _⟩ := h
  rw [fm_length h2]
  have h3 := h1.length_le_of_subset (l₂ := List.range Z.length) (fun i hi => List.mem_range.2 (h2 i hi))
  simpa using h3
set_option maxRecDepth 100000 in
/-- one more -/
theorem PK.step {es : Array MapEntry} {clock : Nat} {Z : List (It Pr)} {seen : Array Nat} {pre : List (It Pr)} (h : PK es Z seen pre) (hez : EZ es clock Z) {e : MapEntry} (he : e ∈ (leftOf es seen).toList) : ∃ z ∈ Z, e.key = .string z.x.1 ∧ e.val = .slice z.a z.n z.c ∧ PK es Z (seen.push e.born) (pre ++ [z]) ∧ pre.length < Z.length := by
  obtain ⟨he1, he2⟩ := mem_left he
  obtain ⟨i, hi, ei⟩ := List.getElem_of_mem he1
  have hei : es.toList[i]? = some e := by rw [List.getElem?_eq_getElem hi, ei]
  obtain ⟨z, hz, hk, hv⟩ := hez.at hei
  obtain ⟨ps, h1, h2, h3, h4⟩ := h
  have hni : i ∉ ps := fun hm => by rw [(h4 i e hei).2 hm] at he2; cases he2
  have hiZ : i < Z.length := (List.getElem?_eq_some_iff.1 hz).1
  have hps2 : ∀ j ∈ ps ++ [i], j < Z.length := fun j hj => by
    rcases List.mem_append.1 hj with hj | hj
    · exact h2 j hj
    · simp at hj; rw [hj]; exact hiZ
  have hnd : (ps ++ [i]).Nodup := by rw [List.nodup_append]; exact ⟨h1, by simp, fun a ha b hb => by simp at hb; rw [hb]; exact fun e => hni (by rw [← e]; exact ha)⟩
  have hpk : PK es Z (seen.push e.born) (pre ++ [z]) := by
    refine ⟨ps ++ [i], hnd, hps2, by rw [h3, List.filterMap_append]; simp [hz], fun j e' hj => ?_⟩
    rw [contains_push]
    have hb : (e'.born == e.born) = true ↔ j = i := by
      rw [beq_iff_eq]
      constructor
      · intro hb
        have hx := born_inj hez.st.2.1 (List.mem_of_getElem? hj) he1 hb
        have hjl := (List.getElem?_eq_some_iff.1 hj).1
        have hnd2 := hez.st.2.1
        have h5 : (es.toList.map (·.born))[j]? = (es.toList.map (·.born))[i]? := by rw [List.getElem?_map, List.getElem?_map, hj, hei, hx]
        exact (List.getElem?_inj (by simpa using hjl) hnd2).1 h5
      · intro hji
        rw [hji, hei] at hj
        cases hj; rfl
    rw [Bool.or_eq_true, h4 j e' hj, hb]; simp
  refine ⟨z, List.mem_of_getElem? hz, hk, hv, hpk, ?_⟩
  have h9 := hpk.length
  rw [List.length_append, List.length_singleton] at h9
  omega
set_option maxRecDepth 100000 in
/-- all of them -/
theorem PK.all {es : Array MapEntry} {clock : Nat} {Z : List (It Pr)} {seen : Array Nat} {pre : List (It Pr)} (h : PK es Z seen pre) (hez : EZ es clock Z) (h0 : (leftOf es seen).size = 0) : pre.Perm Z := by
  obtain ⟨ps, h1, h2, rfl, h4⟩ := h
  have hall : ∀ i, i < Z.length → i ∈ ps := fun i hi => by
    have hi2 : i < es.toList.length := by rw [hez.len]; exact hi
    exact (h4 i es.toList[i] (by rw [List.getElem?_eq_getElem hi2])).1 (all_seen es seen h0 _ (List.getElem_mem hi2))
  have hperm : ps.Perm (List.range Z.length) := (List.perm_ext_iff_of_nodup h1 List.nodup_range).2 fun i => ⟨fun h => List.mem_range.2 (h2 i h), fun h => hall i (List.mem_range.1 h)⟩
  have h5 := hperm.filterMap (fun i => Z[i]?)
  have h6 : (List.range Z.length).filterMap (fun i => Z[i]?) = Z := by
    have : ∀ n, n ≤ Z.length → (List.range n).filterMap (fun i => Z[i]?) = Z.take n := by
      intro n
      induction n with
      | zero => intro _; simp
      | succ n ih =>
        intro hn
        rw [List.range_succ, List.filterMap_append, ih (by omega), List.take_succ_eq_append_getElem (by omega)]
        simp [List.getElem?_eq_getElem (show n < Z.length by omega)]
    rw [this Z.length (Nat.le_refl _), List.take_length]
  rw [h6] at h5
  exact h5
/-- a walk through a map -/
structure MI (wr : World) (gm r : Nat) (es : Array MapEntry) (clock : Nat) (Z : List (It Pr)) (seen : Array Nat) (c0 : Nat) (pre : List (It Pr)) : Prop where
  mp : wr.heap[gm]? = some (.map es clock)
  it : wr.heap[r]? = some (.mapIter (some gm) clock seen c0)
  ez : EZ es clock Z
  pk : PK es Z seen pre
  cc : clock ≤ c0
set_option maxRecDepth 100000 in
theorem MI.walks {wr w' : World} {gm r : Nat} {es : Array MapEntry} {clock : Nat} {Z : List (It Pr)} {seen : Array Nat} {c0 : Nat} {pre : List (It Pr)} (h : MI wr gm r es clock Z seen c0 pre) (hk : KeepsWalks wr w') : MI w' gm r es clock Z seen c0 pre :=
  ⟨hk.same gm _ h.mp rfl, hk.same r _ h.it rfl, h.ez, h.pk, h.cc⟩
/-- how many are left, for the measure -/
def lefts (wr : World) (gm r : Nat) : Nat := match wr.heap[gm]?, wr.heap[r]? with | some (.map es _), some (.mapIter _ _ seen _) => (leftOf es seen).size | _, _ => 0
set_option maxRecDepth 100000 in
theorem MI.left {wr : World} {gm r : Nat} {es : Array MapEntry} {clock : Nat} {Z : List (It Pr)} {seen : Array Nat} {c0 : Nat} {pre : List (It Pr)} (h : MI wr gm r es clock Z seen c0 pre) : lefts wr gm r = (leftOf es seen).size := by
  unfold lefts
  rw [h.mp, h.it]
set_option maxRecDepth 100000 in
theorem setBlock_at (w : World) {r : Nat} {o : Obj} (o' : Obj) (h : w.heap[r]? = some o) : (setBlock w r o').heap[r]? = some o' := by
  have hlt := (Array.getElem?_eq_some_iff.1 h).1
  simp [setBlock, hlt]
set_option maxRecDepth 100000 in
theorem setBlock_other (w : World) {r k : Nat} (o' : Obj) (h : k ≠ r) : (setBlock w r o').heap[k]? = w.heap[k]? := by simp [setBlock, Ne.symm h]
set_option maxRecDepth 100000 in
theorem setBlock_grown (w w1 : World) (r : Nat) (o' : Obj) (h : w1 = w ∨ w1 = w.drew) : w.grownBy (setBlock w1 r o') (some r) := by
  rcases h with rfl | rfl
  · exact ⟨rfl, rfl, rfl, by simp [setBlock], fun k _ hk => setBlock_other _ o' (fun e => hk (by rw [e]))⟩
  · exact ⟨rfl, rfl, rfl, by simp [setBlock], fun k _ hk => (setBlock_other _ o' (fun e => hk (by rw [e]))).trans rfl⟩
set_option maxRecDepth 100000 in
set_option maxHeartbeats 2000000 in
theorem pairs1_in (n : Nat) (hn : 1 ≤ n) (l Bs gs gm : Nat) (es : Array MapEntry) (clock : Nat) (Z : List (It Pr)) (J Jx : List (It Pr) → World → Prop)
    (hY : ∀ pre x W, J pre W → pre.length < Z.length → YieldAt Fence.wide (n - 1) Tryz.prog l #[.agg #[.string x.x.1, .slice x.a x.n x.c]] W fun e W' =>
      (e = .returned (.bool true) ∧ J (pre ++ [x]) W' ∧ KeepsWalks W W') ∨ (e = .returned (.bool false) ∧ Jx (pre ++ [x]) W'))
    (W : World) (hJ : AbidesFrom W.heap.size J) (c1 : W.cell? ⟨Bs, 0, none⟩ = some (.pointer (some ⟨gs, 0, none⟩))) (c2 : W.cell? ⟨gs, 2, none⟩ = some (.map (some gm))) (hm : W.heap[gm]? = some (.map es clock)) (hez : EZ es clock Z) (h0 : J [] W) :
    CallsIn Fence.wide n Tryz.prog 218 #[.func (.yield l) #[] #[], .pointer (some ⟨Bs, 0, none⟩)] W fun e W' => (∃ v, e = .returned v) ∧
      ((∃ ys, ys.Perm Z ∧ J ys W') ∨ (∃ pre : List (It Pr), True ∧ Jx pre W')) := by
  refine callsIn_of_wp Tryz.func218 rfl trivial ?_ rfl
  simp only [Tryz.ntmps218, List.size_toArray, List.length_cons, List.length_nil, Nat.reduceAdd, Nat.reduceSub, Array.replicate_succ, Array.replicate_zero, List.push_toArray, List.append_toArray, List.nil_append, List.cons_append]
  have hrg := run_range_map (P := Tryz.prog) W 127 9 34 gm es clock Tryz.underlying127 hm
  have hgl : gm < W.heap.size := (Array.getElem?_eq_some_iff.1 hm).1
  have HM0 : Bx (MI (W.alloc (.mapIter (some gm) clock #[] clock)) gm W.heap.size es clock Z #[] clock []) := ⟨(heap_alloc_old W _ hgl).trans hm, heap_alloc_new W _, hez, PK.nil _ _, Nat.le_refl _⟩
  have HJ0 : Bx (J [] (W.alloc (.mapIter (some gm) clock #[] clock))) := ⟨hJ [] W _ none h0 (World.grownBy_alloc W _ none) (fun r e => by cases e)⟩
  obtain ⟨r, HR⟩ : ∃ r, Bx (r = W.heap.size) := ⟨_, ⟨rfl⟩⟩
  have HW0 : Bx (W.heap.size ≤ r) := ⟨by rw [HR.out]; exact Nat.le_refl _⟩
  gi_wp2
  rw [← HR.out] at HM0 ⊢
  generalize W.alloc (.mapIter (some gm) clock #[] clock) = w0 at HM0 HJ0 ⊢
  clear hrg hm h0 c1 c2 hez
  gi_loopw [3] (fun _ wr => ∃ (seen : Array Nat) (c0 : Nat) (pre : List (It Pr)), Bx (MI wr gm r es clock Z seen c0 pre) ∧ Bx (J pre wr)) (fun _ wr => lefts wr gm r)
  case atStart => exact ⟨_, _, [], HM0, HJ0⟩
  case round =>
    clear HM0 HJ0
    obtain ⟨seen, c0, pre, HM, HJ⟩ := hrel
    have hne : gm ≠ r := fun e => by
      have h1 := HM.out.mp
      rw [e, HM.out.it] at h1
      cases h1
    have hlf := HM.out.left
    rcases run_next_at (P := Tryz.prog) wr 0 r gm clock c0 seen es clock HM.out.it HM.out.mp HM.out.ez.st.1 HM.out.cc with ⟨hz, hnx⟩ | ⟨e, he, w1, hw1, hnx⟩
    · have HF : Bx (∃ ys, ys.Perm Z ∧ J ys wr) := ⟨pre, HM.out.pk.all HM.out.ez hz, HJ.out⟩
      clear hlf
      gi_wp2
      go_end0
      exact ⟨⟨_, rfl⟩, .inl HF.out⟩
    · obtain ⟨z, hzZ, hzk, hzv, hpk, hlt⟩ := HM.out.pk.step HM.out.ez he
      have hsh := left_shrinks es seen e he
      have hM2 : MI (setBlock w1 r (.mapIter (some gm) clock (seen.push e.born) clock)) gm r es clock Z (seen.push e.born) clock (pre ++ [z]) := by
        have hm1 : w1.heap[gm]? = some (.map es clock) := by rcases hw1 with rfl | rfl <;> exact HM.out.mp
        have hi1 : w1.heap[r]? = some (.mapIter (some gm) clock seen c0) := by rcases hw1 with rfl | rfl <;> exact HM.out.it
        exact ⟨(setBlock_other w1 _ hne).trans hm1, setBlock_at w1 _ hi1, HM.out.ez, hpk, Nat.le_refl _⟩
      have hen := run_entry_at (P := Tryz.prog) (setBlock w1 r (.mapIter (some gm) clock (seen.push e.born) clock)) r gm clock seen es clock e hM2.it hM2.mp (mem_left he).1 HM.out.ez.st.2.1
      rw [hzk, hzv] at hen hnx
      have hJ2 : J pre (setBlock w1 r (.mapIter (some gm) clock (seen.push e.born) clock)) := hJ pre wr _ (some r) HJ.out (setBlock_grown wr w1 r _ hw1) (fun r' e' => by cases e'; exact ⟨HW0.out, _, HM.out.it, rfl⟩)
      obtain ⟨fn, tmps, assign, body, hy, hRd⟩ := hY pre z _ hJ2 hlt
      have HM2 := Bx.mk hM2
      have HLF := Bx.mk hlf
      have HSH := Bx.mk hsh
      generalize setBlock w1 r (.mapIter (some gm) clock (seen.push e.born) clock) = w2 at hnx hen hy hRd HM2
      clear hlf hsh hM2 hJ2 hpk hw1 hzk hzv
      gi_wp2
      refine hRd.mono ?_
      rintro e3 W3 (⟨rfl, hJ3, hk3⟩ | ⟨rfl, hJx3⟩)
      · have HM3 := Bx.mk (HM2.out.walks hk3)
        have HJ3 := Bx.mk hJ3
        clear hnx hen hy hk3
        gi_wp2
        go_roundw
        case rel => exact ⟨_, _, pre ++ [z], HM3, HJ3⟩
        case measure => rw [HM3.out.left, HLF.out]; exact HSH.out
      · have HJX := Bx.mk hJx3
        clear hnx hen hy
        gi_wp2
        refine bodyPost_ret (results_none rfl _ _ _) rfl ?_
        exact ⟨⟨_, rfl⟩, .inr ⟨_, trivial, HJX.out⟩⟩
end Go.Proofs.YtipakjenggeflaaGreatDoor
