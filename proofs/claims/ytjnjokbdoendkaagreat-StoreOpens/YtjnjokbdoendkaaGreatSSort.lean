/- slices.SortFunc over pairs by their keys. -/
import Derived.Test.YtjnjokbdoendkaaGreatSScan
import Derived.Test.YtjnjokbdoendkaaGreatSSLay
import Derived.Shelf.SlSortCmp.WholeK
import Derived.Shelf.SlSortCmp.NoneTotal
namespace Go.Proofs.YtjnjokbdoendkaaGreat
open Go.RowKit Go.Shelf Go.Lib Go.Sort

set_option maxRecDepth 100000 in
theorem cmpb_lt : ∀ (x y : List UInt8), decide (Lib.compareBytes x y < 0) = decide (x < y)
  | [], [] => by simp [Lib.compareBytes]
  | [], b :: y => by simp [Lib.compareBytes]
  | a :: x, [] => by simp [Lib.compareBytes]
  | a :: x, b :: y => by
    have ih := cmpb_lt x y
    unfold Lib.compareBytes
    by_cases h1 : a < b
    · rw [if_pos h1, decide_eq_true (show (-1 : Int) < 0 by decide), decide_eq_true (List.cons_lt_cons_iff.2 (.inl h1))]
    · rw [if_neg h1]
      by_cases h2 : b < a
      · rw [if_pos h2, decide_eq_false (show ¬ (1 : Int) < 0 by decide), decide_eq_false]
        intro h3
        rcases List.cons_lt_cons_iff.1 h3 with h4 | ⟨h4, _⟩
        · exact h1 h4
        · subst h4; exact h1 h2
      · rw [if_neg h2, ih]
        have e : a = b := UInt8.le_antisymm (UInt8.not_lt.1 h2) (UInt8.not_lt.1 h1)
        subst e
        exact decide_eq_decide.2 ⟨fun h => List.cons_lt_cons_iff.2 (.inr ⟨rfl, h⟩), fun h => by
          rcases List.cons_lt_cons_iff.1 h with h4 | ⟨_, h4⟩
          · exact absurd h4 h1
          · exact h4⟩
def cfP (x y : It Pr) : Int := Lib.compareBytes x.x.1.data.toList y.x.1.data.toList
set_option maxRecDepth 100000 in
theorem ltP (x y : It Pr) : ltOf cfP x y = decide (klt x.x.1 y.x.1) := cmpb_lt _ _
set_option maxRecDepth 100000 in
theorem swoP : SWO (ltOf cfP) where
  irrefl x := by rw [ltP]; exact decide_eq_false (klt_irrefl _)
  trans x y z h1 h2 := by
    rw [ltP] at *
    exact decide_eq_true (klt_trans (of_decide_eq_true h1) (of_decide_eq_true h2))
  ntrans x y z h1 h2 := by
    rw [ltP] at *
    refine decide_eq_false fun h => ?_
    have h3 := of_decide_eq_false h1
    have h4 := of_decide_eq_false h2
    by_cases e : y.x.1 = x.x.1
    · rw [e] at h4; exact h4 h
    · exact h4 (klt_trans (klt_tri h3 (fun e2 => e e2.symm)) h)
set_option maxRecDepth 100000 in
set_option maxHeartbeats 1000000 in
theorem scmp_any (x y : It Pr) (W : World) : Calls Tryz.prog 88 #[.agg #[.string x.x.1, .slice x.a x.n x.c], .agg #[.string y.x.1, .slice y.a y.n y.c]] W fun e w' => e = .returned (.int .i64 (cfP x y)) ∧ ∃ q os', w' = grow (W.drewN q) os' := by
  have hcon := fun W' => Any.strings_Compare Tryz.lays106 x.x.1 y.x.1 W'
  change ∀ W', Calls Tryz.prog 89 _ _ _ at hcon
  change ∀ W', Calls Tryz.prog 89 _ _ (fun e w' => e = .returned (.int .i64 (cfP x y)) ∧ w' = W') at hcon
  generalize cfP x y = r at hcon ⊢
  have HC := Bx.mk hcon
  clear hcon
  go_enter Tryz.func88, Tryz.ntmps88
  go_wp2_with fail
  refine (HC.out _).mono ?_
  rintro e w' ⟨rfl, rfl⟩
  go_wp2_with fail
  go_ret
  exact ⟨rfl, 0, _, by rw [alloc_eq_grow, alloc_eq_grow, grow_grow]; rfl⟩
set_option maxRecDepth 100000 in
theorem cmpLaysP [Inhabited (It Pr)] (blk off size : Nat) (w : World) : CmpLays Tryz.prog 88 #[] prE 2 cfP blk off size w :=
  fun _ _ _ _ x y => scmp_any x y _
set_option maxRecDepth 100000 in
theorem flat_flatK [Inhabited (It Pr)] (d : Array (It Pr)) : (flatK prE 2 d).toList = d.toList.flatMap prE := by
  refine List.ext_getElem? fun t => ?_
  by_cases ht : t < d.size * 2
  · have h1 : (flatK prE 2 d).toList[t]? = some (flatK prE 2 d)[t]! := by
      have : t < (flatK prE 2 d).size := by rw [size_flatK]; exact ht
      rw [Array.getElem?_toList, getElem!_pos _ t this, Array.getElem?_eq_getElem this]
    have hi : t / 2 < d.toList.length := by simp; omega
    have h2 := flat_get prE_len d.toList (t / 2) (t % 2) hi (by omega)
    rw [show t / 2 * 2 + t % 2 = t by omega] at h2
    rw [h1, get_flatK _ _ _ _ ht, h2]
    have hi2 : t / 2 < d.size := by omega
    rw [getElem!_pos d (t / 2) hi2, Array.getElem_toList]
    have h3 : t % 2 < (prE d[t / 2]).length := by rw [prE_len]; omega
    rw [getElem!_pos (prE d[t / 2]) (t % 2) h3, List.getElem?_eq_getElem h3]
  · rw [List.getElem?_eq_none (by simp; omega), List.getElem?_eq_none (by rw [flatC_len prE_len]; simp; omega)]
set_option maxRecDepth 100000 in
theorem put_take (F cur : Array Value) (h : F.size ≤ cur.size) : (putCells id 0 F cur).toList.take F.size = F.toList := by
  refine List.ext_getElem? fun t => ?_
  rw [List.getElem?_take]
  by_cases ht : t < F.size
  · rw [if_pos ht]
    have h2 : t < cur.size := by omega
    simp [putCells, h2, ht]
  · rw [if_neg ht, List.getElem?_eq_none (by simp; omega)]
set_option maxRecDepth 100000 in
set_option maxHeartbeats 1000000 in
theorem sort_says : SortSays := by
  intro base a n cap Z w hZ hn hown
  rcases hown.2 with ⟨e, h0⟩ | ⟨g, cap2, cur, e, hb, hg, hnc, hcm, hcs, ht⟩
  · cases e
    have hcon := AnyF.slices_SortFunc_none Tryz.laysF6 none 0 (.func (.func 88) #[] #[]) w
    change Calls Tryz.prog 87 _ _ _ at hcon
    have hZ0 : Z = [] := List.eq_nil_of_length_eq_zero hZ
    refine hcon.mono ?_
    rintro e w' ⟨rfl, rfl⟩
    exact ⟨rfl, [], by rw [hZ0], List.Pairwise.nil, World.ownsRow_nil _ _ _ _, ⟨rfl, rfl, rfl, Nat.le_refl _, fun _ _ _ => rfl⟩⟩
  · cases e
    have inst : Inhabited (It Pr) := ⟨⟨(⟨#[]⟩, []), none, 0, 0⟩⟩
    have hZs : Z.toArray.size = n := by simpa using hZ
    have hH : HoldsK prE 2 w g 0 Z.toArray := by
      intro j hj
      rw [size_flatK, hZs] at hj
      have h1 := hown.cellAt j hj
      have h2 : (flatK prE 2 Z.toArray).toList[j]? = (Z.flatMap prE)[j]? := by rw [flat_flatK]
      have h3 : j < (flatK prE 2 Z.toArray).size := by rw [size_flatK, hZs]; exact hj
      rw [Array.getElem?_toList, Array.getElem?_eq_getElem h3] at h2
      refine ⟨?_, frozen_of_row w g _ _ _ hg⟩
      rw [Nat.zero_add, h1, ← h2, id, getElem!_pos _ j h3]
    have hgl : g < w.heap.size := (Array.getElem?_eq_some_iff.1 hg).1
    have hcon := AnyQ.slices_SortFunc Tryz.laysF6 2 Tryz.isAgg114 Tryz.sizeOf114 prE prE_len prE_one cfP swoP 88 #[] g 0 cap Z.toArray w (enters_of Tryz.func88 (by kernel_rfl) rfl) (cmpLaysP g 0 _ w) hH hgl (by rw [hZs]; omega)
    change Calls Tryz.prog 87 _ _ _ at hcon
    rw [hZs] at hcon
    refine hcon.mono ?_
    rintro e w' ⟨rfl, d', m, os, ⟨hp1, _, hp3⟩, hso, rfl⟩
    have hdn : d'.size = n := by rw [hp1, hZs]
    have e1 : d'.extract 0 n = d' := by rw [← hdn]; exact Array.extract_size
    have e2 : Z.toArray.extract 0 n = Z.toArray := by rw [← hZs]; exact Array.extract_size
    rw [e1, e2] at hp3
    have hheap : (sortWorldK prE 2 w g 0 m d' os).heap = w.heap.modify g (onCells (putCells id 0 (flatK prE 2 d'))) ++ os := rfl
    have hgb : (sortWorldK prE 2 w g 0 m d' os).heap[g]? = some (.cells (putCells id 0 (flatK prE 2 d') cur) 114 (0, 0)) := by
      rw [hheap, Array.getElem?_append_left (by simpa using hgl), Array.getElem?_eq_getElem (by simpa using hgl), Array.getElem_modify_self]
      obtain ⟨_, h5⟩ := Array.getElem?_eq_some_iff.1 hg
      rw [h5]; rfl
    refine ⟨rfl, d'.toList, by simpa using hp3, ?_, ⟨?_, .inr ⟨g, cap, putCells id 0 (flatK prE 2 d') cur, rfl, hb, hgb, hnc, hcm, ?_, ?_⟩⟩, ?_⟩
    · rw [List.pairwise_map, List.pairwise_iff_getElem]
      intro i j hi hj hij
      have hi' : i < d'.size := by simpa using hi
      have hj' : j < d'.size := by simpa using hj
      have h5 := hso i j (Nat.zero_le _) hij (by omega)
      rw [getElem!_pos d' j hj', getElem!_pos d' i hi', ltP] at h5
      have h6 := of_decide_eq_false h5
      simpa using h6
    · rw [flatC_len prE_len]; simp [hdn]
    · simp [putCells, hcs]
    · have h7 := put_take (flatK prE 2 d') cur (by rw [size_flatK, hdn, hcs]; exact Nat.mul_le_mul_right 2 hnc)
      rw [size_flatK, hdn, flat_flatK] at h7
      exact h7
    · refine ⟨rfl, rfl, rfl, by rw [hheap]; simp, fun k hk hne => ?_⟩
      rw [hheap, Array.getElem?_append_left (by simpa using hk)]
      have hkg : g ≠ k := fun e => hne (by rw [e]; rfl)
      rw [Array.getElem?_modify, if_neg hkg]
end Go.Proofs.YtjnjokbdoendkaaGreat
