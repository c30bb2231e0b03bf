/- slices.SortFunc over pairs by their keys. All, Room of a store. -/
import Derived.Test.YtipakjenggeflaaGreatDoorSScan
import Derived.Test.YtipakjenggeflaaGreatDoorSSLay
import Derived.Shelf.SlSortCmp.WholeK
import Derived.Shelf.SlSortCmp.NoneTotal
namespace Go.Proofs.YtipakjenggeflaaGreatDoor
open Go.RowKit Go.Shelf Go.Lib Go.Sort

set_option maxRecDepth 100000 in
theorem cmpb_lt : ∀ (x y : List UInt8), decide (Lib.compareBytes x y < 0) = decide (x < y)
  | [], [] => by simp [Lib.compareBytes]
  | [], b :: y => by simp [Lib.compareBytes]
  | a :: x, [] => by simp [Lib.compareBytes]
  | a :: x, b :: y => by
    have ih := cmpb_lt x y
    unfold Lib.compareBytes
    by_cases h1 : a < b
    · rw [if_pos h1, decide_eq_true (show (-1 : Int) < 0 by decide), decide_eq_true (List.cons_lt_cons_iff.2 (.inl h1))]
    · rw [if_neg h1]
      by_cases h2 : b < a
      · rw [if_pos h2, decide_eq_false (show ¬ (1 : Int) < 0 by decide), decide_eq_false]
        intro h3
        rcases List.cons_lt_cons_iff.1 h3 with h4 | ⟨h4, _⟩
        · exact h1 h4
        · subst h4; exact h1 h2
      · rw [if_neg h2, ih]
        have e : a = b := UInt8.le_antisymm (UInt8.not_lt.1 h2) (UInt8.not_lt.1 h1)
        subst e
        exact decide_eq_decide.2 ⟨fun h => List.cons_lt_cons_iff.2 (.inr ⟨rfl, h⟩), fun h => by
          rcases List.cons_lt_cons_iff.1 h with h4 | ⟨_, h4⟩
          · exact absurd h4 h1
          · exact h4⟩
def cfP (x y : It Pr) : Int := Lib.compareBytes x.x.1.data.toList y.x.1.data.toList
set_option maxRecDepth 100000 in
theorem ltP (x y : It Pr) : ltOf cfP x y = decide (klt x.x.1 y.x.1) := cmpb_lt _ _
set_option maxRecDepth 100000 in
theorem swoP : SWO (ltOf cfP) where
  irrefl x := by rw [ltP]; exact decide_eq_false (klt_irrefl _)
  trans x y z h1 h2 := by
    rw [ltP] at *
    exact decide_eq_true (klt_trans (of_decide_eq_true h1) (of_decide_eq_true h2))
  ntrans x y z h1 h2 := by
    rw [ltP] at *
    refine decide_eq_false fun h => ?_
    have h3 := of_decide_eq_false h1
    have h4 := of_decide_eq_false h2
    by_cases e : y.x.1 = x.x.1
    · rw [e] at h4; exact h4 h
    · exact h4 (klt_trans (klt_tri h3 (fun e2 => e e2.symm)) h)
set_option maxRecDepth 100000 in
set_option maxHeartbeats 1000000 in
theorem scmp_any (x y : It Pr) (W : World) : Calls Tryz.prog 153 #[.agg #[.string x.x.1, .slice x.a x.n x.c], .agg #[.string y.x.1, .slice y.a y.n y.c]] W fun e w' => e = .returned (.int .i64 (cfP x y)) ∧ ∃ q os', w' = grow (W.drewN q) os' := by
  have hcon := fun W' => Any.strings_Compare Tryz.lays106 x.x.1 y.x.1 W'
  change ∀ W', Calls Tryz.prog 154 _ _ _ at hcon
  change ∀ W', Calls Tryz.prog 154 _ _ (fun e w' => e = .returned (.int .i64 (cfP x y)) ∧ w' = W') at hcon
  generalize cfP x y = r at hcon ⊢
  have HC := Bx.mk hcon
  clear hcon
  go_enter Tryz.func153, Tryz.ntmps153
  go_wp2_with fail
  refine (HC.out _).mono ?_
  rintro e w' ⟨rfl, rfl⟩
  go_wp2_with fail
  go_ret
  exact ⟨rfl, 0, _, by rw [alloc_eq_grow, alloc_eq_grow, grow_grow]; rfl⟩
set_option maxRecDepth 100000 in
theorem cmpLaysP [Inhabited (It Pr)] (blk off size : Nat) (w : World) : CmpLays Tryz.prog 153 #[] prE 2 cfP blk off size w :=
  fun _ _ _ _ x y => scmp_any x y _
set_option maxRecDepth 100000 in
theorem flat_flatK [Inhabited (It Pr)] (d : Array (It Pr)) : (flatK prE 2 d).toList = d.toList.flatMap prE := by
  refine List.ext_getElem? fun t => ?_
  by_cases ht : t < d.size * 2
  · have h1 : (flatK prE 2 d).toList[t]? = some (flatK prE 2 d)[t]! := by
      have : t < (flatK prE 2 d).size := by rw [size_flatK]; exact ht
      rw [Array.getElem?_toList, getElem!_pos _ t this, Array.getElem?_eq_getElem this]
    have hi : t / 2 < d.toList.length := by simp; omega
    have h2 := flat_getS prE_len d.toList (t / 2) (t % 2) hi (by omega)
    rw [show t / 2 * 2 + t % 2 = t by omega] at h2
    rw [h1, get_flatK _ _ _ _ ht, h2]
    have hi2 : t / 2 < d.size := by omega
    rw [getElem!_pos d (t / 2) hi2, Array.getElem_toList]
    have h3 : t % 2 < (prE d[t / 2]).length := by rw [prE_len]; omega
    rw [getElem!_pos (prE d[t / 2]) (t % 2) h3, List.getElem?_eq_getElem h3]
  · rw [List.getElem?_eq_none (by simp; omega), List.getElem?_eq_none (by rw [flatC_len prE_len]; simp; omega)]
set_option maxRecDepth 100000 in
theorem put_take (F cur : Array Value) (h : F.size ≤ cur.size) : (putCells id 0 F cur).toList.take F.size = F.toList := by
  refine List.ext_getElem? fun t => ?_
  rw [List.getElem?_take]
  by_cases ht : t < F.size
  · rw [if_pos ht]
    have h2 : t < cur.size := by omega
    simp [putCells, h2, ht]
  · rw [if_neg ht, List.getElem?_eq_none (by simp; omega)]
set_option maxRecDepth 100000 in
set_option maxHeartbeats 1000000 in
theorem sort_says : SortSays := by
  intro base a n cap Z w hZ hn hown
  rcases hown.2 with ⟨e, h0⟩ | ⟨g, cap2, cur, e, hb, hg, hnc, hcm, hcs, ht⟩
  · cases e
    have hcon := AnyF.slices_SortFunc_none Tryz.laysF6 none 0 (.func (.func 153) #[] #[]) w
    change Calls Tryz.prog 152 _ _ _ at hcon
    have hZ0 : Z = [] := List.eq_nil_of_length_eq_zero hZ
    refine hcon.mono ?_
    rintro e w' ⟨rfl, rfl⟩
    exact ⟨rfl, [], by rw [hZ0], List.Pairwise.nil, World.ownsRow_nil _ _ _ _, ⟨rfl, rfl, rfl, Nat.le_refl _, fun _ _ _ => rfl⟩⟩
  · cases e
    have inst : Inhabited (It Pr) := ⟨⟨(⟨#[]⟩, []), none, 0, 0⟩⟩
    have hZs : Z.toArray.size = n := by simpa using hZ
    have hH : HoldsK prE 2 w g 0 Z.toArray := by
      intro j hj
      rw [size_flatK, hZs] at hj
      have h1 := hown.cellAt j hj
      have h2 : (flatK prE 2 Z.toArray).toList[j]? = (Z.flatMap prE)[j]? := by rw [flat_flatK]
      have h3 : j < (flatK prE 2 Z.toArray).size := by rw [size_flatK, hZs]; exact hj
      rw [Array.getElem?_toList, Array.getElem?_eq_getElem h3] at h2
      refine ⟨?_, frozen_of_row w g _ _ _ hg⟩
      rw [Nat.zero_add, h1, ← h2, id, getElem!_pos _ j h3]
    have hgl : g < w.heap.size := (Array.getElem?_eq_some_iff.1 hg).1
    have hcon := AnyQ.slices_SortFunc Tryz.laysF6 2 Tryz.isAgg150 Tryz.sizeOf150 prE prE_len prE_one cfP swoP 153 #[] g 0 cap Z.toArray w (enters_of Tryz.func153 (by kernel_rfl) rfl) (cmpLaysP g 0 _ w) hH hgl (by rw [hZs]; omega)
    change Calls Tryz.prog 152 _ _ _ at hcon
    rw [hZs] at hcon
    refine hcon.mono ?_
    rintro e w' ⟨rfl, d', m, os, ⟨hp1, _, hp3⟩, hso, rfl⟩
    have hdn : d'.size = n := by rw [hp1, hZs]
    have e1 : d'.extract 0 n = d' := by rw [← hdn]; exact Array.extract_size
    have e2 : Z.toArray.extract 0 n = Z.toArray := by rw [← hZs]; exact Array.extract_size
    rw [e1, e2] at hp3
    have hheap : (sortWorldK prE 2 w g 0 m d' os).heap = w.heap.modify g (onCells (putCells id 0 (flatK prE 2 d'))) ++ os := rfl
    have hgb : (sortWorldK prE 2 w g 0 m d' os).heap[g]? = some (.cells (putCells id 0 (flatK prE 2 d') cur) 150 (0, 0)) := by
      rw [hheap, Array.getElem?_append_left (by simpa using hgl), Array.getElem?_eq_getElem (by simpa using hgl), Array.getElem_modify_self]
      obtain ⟨_, h5⟩ := Array.getElem?_eq_some_iff.1 hg
      rw [h5]; rfl
    refine ⟨rfl, d'.toList, by simpa using hp3, ?_, ⟨?_, .inr ⟨g, cap, putCells id 0 (flatK prE 2 d') cur, rfl, hb, hgb, hnc, hcm, ?_, ?_⟩⟩, ?_⟩
    · rw [List.pairwise_map, List.pairwise_iff_getElem]
      intro i j hi hj hij
      have hi' : i < d'.size := by simpa using hi
      have hj' : j < d'.size := by simpa using hj
      have h5 := hso i j (Nat.zero_le _) hij (by omega)
      rw [getElem!_pos d' j hj', getElem!_pos d' i hi', ltP] at h5
      have h6 := of_decide_eq_false h5
      simpa using h6
    · rw [flatC_len prE_len]; simp [hdn]
    · simp [putCells, hcs]
    · have h7 := put_take (flatK prE 2 d') cur (by rw [size_flatK, hdn, hcs]; exact Nat.mul_le_mul_right 2 hnc)
      rw [size_flatK, hdn, flat_flatK] at h7
      exact h7
    · refine ⟨rfl, rfl, rfl, by rw [hheap]; simp, fun k hk hne => ?_⟩
      rw [hheap, Array.getElem?_append_left (by simpa using hk)]
      have hkg : g ≠ k := fun e => hne (by rw [e]; rfl)
      rw [Array.getElem?_modify, if_neg hkg]
end Go.Proofs.YtipakjenggeflaaGreatDoor
namespace Go.Proofs.YtipakjenggeflaaGreatDoor
open Go.RowKit
set_option linter.unusedVariables false

set_option maxRecDepth 100000 in
theorem scL_all {L M : List Pr} (hr : Rep L M) (hm : MOk M) : scL L ⟨#[]⟩ ⟨#[]⟩ (M.length : Int) = L := by
  unfold scL
  have h1 : L.filter (sel ⟨#[]⟩ ⟨#[]⟩) = L := List.filter_eq_self.2 fun p hp => by
    unfold sel
    have h2 : klt ⟨#[]⟩ p.1 := klt_nil (hm.k1 p (hr.p.subset hp))
    rw [decide_eq_true h2]
    simp [Lib.hasPrefix]
  rw [h1]
  exact List.take_of_length_le (by rw [hr.p.length_eq]; omega)
set_option maxRecDepth 100000 in
theorem run_len_map {w : World} {gm : Nat} {es : Array MapEntry} {clock : Nat} (hm : w.heap[gm]? = some (.map es clock)) (r : TypeId) : (Builtin.len_ #[127] r #[.map (some gm)]).run Tryz.prog w = .ok (.int .i64 es.size) w := by
  simp [Builtin.len_, run_underlying Tryz.underlying127, MapKept.run_getObj_map hm, Result.andThen, goInt]
set_option maxRecDepth 100000 in
set_option maxHeartbeats 1000000 in
theorem all_any (gs gl : Nat) (q us : Int) (own : Nat → Prop) (M L : List Pr) (w : World) (h : StS w gs gl q us own M) (hr : Rep L M) (hM : M.length ≤ 1000000) :
    Calls Tryz.prog 30 #[.pointer (some ⟨gs, 0, none⟩)] w fun e w' => ∃ v, e = .returned v ∧ PL w' (fun k => w.heap.size ≤ k ∧ k < w'.heap.size) v L ∧ Below w.heap.size w w' := by
  have HS := Bx.mk h
  obtain ⟨gm, es, clock, Z, hs⟩ := h
  have H0 := Bx.mk hs.c0
  have c2 := hs.c2
  have hmp := hs.mp
  have hsz : es.size = M.length := by
    have h1 := hs.ez.len
    rw [← hs.zx, List.length_map, ← h1]; simp
  have HR := Bx.mk hr
  have HSZ := Bx.mk hsz
  have HMO := Bx.mk hs.mo
  have hlen := run_len_map hmp 3
  rw [hsz] at hlen
  clear hmp
  clear hs hr hsz
  go_enter Tryz.func30, Tryz.ntmps30
  go_wp2_with fail
  refine (smade_yes gs gl _ H0.out).mono ?_
  rintro e w' ⟨rfl, rfl⟩
  go_wp2_with fail
  refine (scan_any sort_says gs gl q us own M L ⟨#[]⟩ ⟨#[]⟩ (M.length : Int) _ HS.out HR.out hM (by omega) (by omega)).mono ?_
  rintro e w2 ⟨v, rfl, hp, hb⟩
  rw [scL_all HR.out HMO.out] at hp
  have HP := Bx.mk hp
  obtain ⟨a9, n9, c9, rfl⟩ : ∃ a n c, v = .slice a n c := by obtain ⟨a9, c9, h9, _⟩ := hp.form; exact ⟨a9, _, c9, h9⟩
  clear hp hlen
  go_wp2_with fail
  go_ret
  exact ⟨_, rfl, HP.out, hb⟩
end Go.Proofs.YtipakjenggeflaaGreatDoor
