/- The leaves of texts: clash's, and the document's own. The program's ledger: leaves. -/
import Derived.Test.YtbednfacipphhaaDoorAubc
import Derived.Test.YtbednfacipphhaaDoorAuay
import Derived.Test.YtbednfacipphhaaDoorAuaq
import Derived.Test.YtbednfacipphhaaDoorAuaj
import Derived.Test.YtbednfacipphhaaDoorAuao
import Derived.Test.YtbednfacipphhaaDoorAuat
import Derived.Test.YtbednfacipphhaaDoorAuah
namespace Go.Proofs.YtbednfacipphhaaDoor
open Go.RowKit
set_option linter.unusedVariables false

/-- a row of digests, new, that is filled -/
structure LV (G n : Nat) (L : List (List Int)) (w wr : World) : Prop where
  low : Below G w wr
  dig : Dgl L
  len : L.length = n
  row : wr.heap[G]? = some (.cells (bv L.flatten).toArray 30 (0, 0))
set_option maxRecDepth 100000 in
theorem LV.lt {G n : Nat} {L : List (List Int)} {w wr : World} (h : LV G n L w wr) : G < wr.heap.size := (Array.getElem?_eq_some_iff.1 h.row).1
set_option maxRecDepth 100000 in
theorem LV.step {G n : Nat} {L : List (List Int)} {w wr w1 : World} (h : LV G n L w wr) (hb : Below wr.heap.size wr w1) : LV G n L w w1 := ⟨h.low.trans (hb.mono (Nat.le_of_lt h.lt)), h.dig, h.len, (hb.block _ h.lt).trans h.row⟩
set_option maxRecDepth 100000 in
theorem LV.there {G n : Nat} {L : List (List Int)} {w wr : World} (h : LV G n L w wr) (k : Nat) (hk : k < n) : wr.there G (k * 32) 32 := by
  intro j hj
  have hl := flat_len h.dig
  have hn := h.len
  exact ⟨by rw [cell_of_row _ _ (k * 32 + j) _ _ (0, 0) h.row]; simp [bv_length, hl, hn]; omega, frozen_of_row _ _ (k * 32 + j) _ _ h.row⟩
set_option maxRecDepth 100000 in
theorem flat_set {L : List (List Int)} (h : Dgl L) (k : Nat) (hk : k < L.length) (Z : List Int) (hZ : Dg Z) (j : Nat) : (bv (L.set k Z).flatten)[j]? = if k * 32 ≤ j ∧ j < k * 32 + 32 then (bv Z)[j - k * 32]? else (bv L.flatten)[j]? := by
  have hS : Dgl (L.set k Z) := fun d hd => by
    rcases List.mem_or_eq_of_mem_set hd with h1 | h1
    · exact h d h1
    · rw [h1]; exact hZ
  have hbv : ∀ (l : List Int) (i : Nat), (bv l)[i]? = (l[i]?).map (Value.int .u8) := fun l i => by unfold bv; rw [List.getElem?_map]
  rw [hbv, hbv, hbv]
  by_cases hj : j < 32 * L.length
  · rw [flat_get hS j (by rw [List.length_set]; exact hj), flat_get h j hj]
    by_cases hin : k * 32 ≤ j ∧ j < k * 32 + 32
    · rw [if_pos hin, show j / 32 = k from by omega, show j % 32 = j - k * 32 from by omega]
      rw [List.getD_eq_getElem?_getD, List.getElem?_set, if_pos rfl, if_pos hk]; rfl
    · rw [if_neg hin, List.getD_eq_getElem?_getD, List.getElem?_set, if_neg (by omega), ← List.getD_eq_getElem?_getD]
  · rw [if_neg (by omega), List.getElem?_eq_none (by rw [flat_len hS, List.length_set]; omega), List.getElem?_eq_none (by rw [flat_len h]; omega)]
set_option maxRecDepth 100000 in
theorem LV.store {G n : Nat} {L : List (List Int)} {w wr : World} (h : LV G n L w wr) (k : Nat) (hk : k < n) (Z : List Int) (hZ : Dg Z) : LV G n (L.set k Z) w (wr.setCells G (k * 32) (bv Z).toArray.toList) := by
  have hl := flat_len h.dig
  have hn := h.len
  have hS : Dgl (L.set k Z) := fun d hd => by
    rcases List.mem_or_eq_of_mem_set hd with h1 | h1
    · exact h.dig d h1
    · rw [h1]; exact hZ
  refine ⟨below_setCells h.low _ (Nat.le_refl _) _ _, hS, by rw [List.length_set]; exact hn, ?_⟩
  obtain ⟨cs', e1, e2, e3⟩ := heap_setCells G 30 (bv Z).toArray.toList (k * 32) wr _ (by rw [List.size_toArray, bv_length (l := L.flatten), hl, Array.length_toList, List.size_toArray, bv_length, hZ.1]; omega) h.row
  rw [e1]
  congr 1
  congr 1
  apply Array.ext_getElem?
  intro j
  have hR : (bv (L.set k Z).flatten).toArray[j]? = (bv (L.set k Z).flatten)[j]? := List.getElem?_toArray ..
  have hR2 : (bv L.flatten).toArray[j]? = (bv L.flatten)[j]? := List.getElem?_toArray ..
  rw [e3 j, hR, flat_set h.dig k (by omega) Z hZ j, hR2]
  simp only [bv_length, hZ.1]
set_option maxRecDepth 100000 in
theorem made_zeros (n : Nat) : (madeCells #[.int .u8 0, .int .u8 0, .int .u8 0, .int .u8 0, .int .u8 0, .int .u8 0, .int .u8 0, .int .u8 0, .int .u8 0, .int .u8 0, .int .u8 0, .int .u8 0, .int .u8 0, .int .u8 0, .int .u8 0, .int .u8 0, .int .u8 0, .int .u8 0, .int .u8 0, .int .u8 0, .int .u8 0, .int .u8 0, .int .u8 0, .int .u8 0, .int .u8 0, .int .u8 0, .int .u8 0, .int .u8 0, .int .u8 0, .int .u8 0, .int .u8 0, .int .u8 0] (n * 32)).toList = bv (List.replicate n z0).flatten := by
  have hz : Dgl (List.replicate n z0) := fun d hd => by rw [List.eq_of_mem_replicate hd]; exact z0_dg
  have hc : (#[.int .u8 0, .int .u8 0, .int .u8 0, .int .u8 0, .int .u8 0, .int .u8 0, .int .u8 0, .int .u8 0, .int .u8 0, .int .u8 0, .int .u8 0, .int .u8 0, .int .u8 0, .int .u8 0, .int .u8 0, .int .u8 0, .int .u8 0, .int .u8 0, .int .u8 0, .int .u8 0, .int .u8 0, .int .u8 0, .int .u8 0, .int .u8 0, .int .u8 0, .int .u8 0, .int .u8 0, .int .u8 0, .int .u8 0, .int .u8 0, .int .u8 0, .int .u8 0] : Array Value) = Array.replicate 32 (.int .u8 0) := rfl
  rw [hc]
  apply List.ext_getElem?
  intro j
  have hbv : ∀ (l : List Int) (i : Nat), (bv l)[i]? = (l[i]?).map (Value.int .u8) := fun l i => by unfold bv; rw [List.getElem?_map]
  rw [hbv]
  by_cases hj : j < n * 32
  · rw [flat_get hz j (by rw [List.length_replicate]; omega)]
    have hd : (List.replicate n z0).getD (j / 32) [] = z0 := by rw [List.getD_eq_getElem?_getD, List.getElem?_replicate, if_pos (by omega)]; rfl
    rw [hd]
    unfold z0
    rw [List.getElem?_replicate, if_pos (by omega)]
    have h32 : (Array.replicate 32 (Value.int .u8 0))[j % 32]! = Value.int .u8 0 := by
      rw [getElem!_pos (Array.replicate 32 (Value.int .u8 0)) (j % 32) (by simp; omega)]; simp
    simp [madeCells, hj, h32]
  · rw [List.getElem?_eq_none (by simp [madeCells]; omega), List.getElem?_eq_none (by rw [flat_len hz, List.length_replicate]; omega)]; rfl
set_option maxRecDepth 100000 in
theorem row_whole {w : World} {base g n : Nat} {xs : List Value} (h : w.ownsRow base 30 32 (.slice (some ⟨g, 0, none⟩) n n) n xs) : w.heap[g]? = some (.cells xs.toArray 30 (0, 0)) := by
  rcases h.2 with ⟨h2, _⟩ | ⟨g', cap', cur, hv, hg, hh, hn, hm, hs, ht⟩
  · cases h2
  · cases hv
    rw [hh]
    congr 1
    have : cur.toList = xs := by rw [← ht, List.take_of_length_le (by rw [Array.length_toList, hs]; exact Nat.le_refl _)]
    rw [← this]
set_option maxRecDepth 100000 in
theorem LV.dgs {G n : Nat} {L : List (List Int)} {w wr : World} (h : LV G n L w wr) (hn : n ≤ maxLen) : Dgs wr (some ⟨G, 0, none⟩) n n L := by
  refine ⟨h.len, h.dig, Nat.le_refl _, hn, (fun hh => by cases hh), fun hp => ⟨G, 0, rfl, h.lt, fun i hi j v hj => ?_⟩⟩
  have hl := h.len
  have hd := h.dig.getD i (by omega)
  have hj2 : j < 32 := by have := (List.getElem?_eq_some_iff.1 hj).1; rw [bv_length, hd.1] at this; exact this
  rw [cell_of_row _ _ (0 + 32 * i + j) _ _ (0, 0) h.row, List.getElem?_toArray]
  unfold bv at hj ⊢
  rw [List.getElem?_map] at hj ⊢
  rw [flat_get h.dig (0 + 32 * i + j) (by omega), show (0 + 32 * i + j) / 32 = i from by omega, show (0 + 32 * i + j) % 32 = j from by omega]
  exact hj
/-- the row behind k texts -/
def leavesAt (T : List (List Int)) (x : Int) (n k : Nat) : List (List Int) := leavesL (T.take k) x ++ List.replicate (n - k) z0
set_option maxRecDepth 100000 in
theorem leavesAt_more (T : List (List Int)) (x : Int) (n k : Nat) (hT : T.length = n) (hk : k < n) : (leavesAt T x n k).set k (leafL (T.getD k []) x) = leavesAt T x n (k + 1) := by
  unfold leavesAt
  rw [leavesL_more T x k (by omega), List.set_append_right _ _ (by rw [leavesL_len, List.length_take]; omega), leavesL_len, List.length_take, show k - min k T.length = 0 from by omega, show n - k = (n - (k + 1)) + 1 from by omega, List.replicate_succ]
  simp
set_option maxRecDepth 100000 in
theorem leavesAt_end (T : List (List Int)) (x : Int) (n : Nat) (hT : T.length = n) : leavesAt T x n n = leavesL T x := by
  unfold leavesAt
  rw [Nat.sub_self, List.take_of_length_le (by omega)]; simp
set_option maxRecDepth 100000 in
theorem leavesAt_zero (T : List (List Int)) (x : Int) (n : Nat) : leavesAt T x n 0 = List.replicate n z0 := by simp [leavesAt, leavesL]

set_option maxRecDepth 100000 in
set_option maxHeartbeats 1000000 in
theorem refleaves_any (a : Option Addr) (len cap : Nat) (T : List (List Int)) (x : Int) (w : World) (hT : Txs w a len cap T) (hf : ∀ t ∈ T, t.length ≤ 1000000) (hl : len ≤ 1000) :
    Calls Tryd.prog 72 #[.slice a len cap, .int .i64 x] w fun e w' => ∃ a' c', e = .returned (.slice a' len c') ∧ Dgs w' a' len c' (leavesL T x) ∧ Below w.heap.size w w' := by
  have HTL : Hid (T.length = len) := hT.len_eq
  have HT : Bx (Txs w a len cap T) := ⟨hT⟩
  have hcc := hT.le_cap
  have hcm := hT.cap_le
  unfold maxLen at hcm
  have hnil : w.ownsRow w.heap.size 30 32 (.slice none 0 0) 0 (bv ((leavesL (T.take 0) x).flatten)) := World.ownsRow_nil _ _ _ _
  clear hT
  go_enter Tryd.func72, Tryd.ntmps72
  go_wp2
  go_loopw [5, 6] (fun v i wr => ∃ k : Nat, k ≤ len ∧ i = .int .i64 k ∧ wr.ownsRow w.heap.size 30 32 v k (bv (leavesL (T.take k) x).flatten) ∧ Below w.heap.size w wr) (fun _ i _ => len - (intOf i).toNat)
  case atStart => exact ⟨0, Nat.zero_le _, rfl, hnil, Below.refl _ _⟩
  case round =>
    clear hnil
    obtain ⟨k, hk, rfl, hown, hlow⟩ := hrel
    obtain ⟨vAll, hvAll⟩ : ∃ vAll, vAll = u5 := ⟨_, rfl⟩
    subst hvAll
    by_cases hlt : k < len
    · have g1 : (k : Int) < (len : Int) := by omega
      obtain ⟨b, off, ea, hblt, hc⟩ := HT.out.spot (by omega)
      subst ea
      obtain ⟨ai, li, ci, hcell0, hbt0⟩ := hc k hlt
      have hcell := (hlow.cell (p := ⟨b, off + k, none⟩) hblt).trans hcell0
      have hbt := hbt0.below hlow
      have hfit := hf (T.getD k []) (by rw [List.getD_eq_getElem?_getD, List.getElem?_eq_getElem (by rw [HTL.out]; exact hlt)]; exact List.getElem_mem _)
      have HMO : Hid (leavesL (T.take (k + 1)) x = leavesL (T.take k) x ++ [leafL (T.getD k []) x]) := leavesL_more T x k (by rw [HTL.out]; exact hlt)
      generalize T.getD k [] = t at hbt hfit HMO
      have hli : li ≤ 1000000 := by have := hbt.len_eq; omega
      have hZd := leafL_dg t x
      generalize leavesL (T.take k) x = PL at hown HMO
      clear hc hcell0 hbt0 hfit
      go_wp2_with fail
      refine (refleaf_any ai li ci t x _ hbt hli).mono ?_
      rintro e w2 ⟨rfl, hb2⟩
      have hown2 := owns_below hown hb2
      have hlow2 := bstep hlow hb2
      generalize leafL t x = Z at hZd HMO
      have hsz := hlow2.size
      have hone := one_new w2 Z hZd
      have hown3 := owns_new hown2 rfl (.cells (bv Z).toArray 30)
      have hlow3 : Below w.heap.size w (w2.alloc (.cells (bv Z).toArray 30)) := hlow2.alloc hsz _
      clear hown hb2 hbt hcell hlow hown2 hlow2
      go_wp2_with (first
        | (refine wpList_build_one rfl (.tmp 19) rfl Z hZd.1 rfl ?_; generalize w2.alloc (.cells (bv Z).toArray 30) = w3 at hone hown3 hlow3 ⊢)
        | (at_builtin; refine wpList_append_dgs rfl (.tmp 13) (.tmp 20) rfl w.heap.size k _ PL rfl hown3 _ 1 1 [Z] rfl hone (by omega) hlow3.size ?_; intro v' w' ho' hb' _; have hlow4 := hlow3.trans hb'; rw [← HMO.out] at ho'; clear hown3 hb' hlow3 hone))
      go_roundw
      case rel => exact ⟨k + 1, by omega, by go_num, ho', hlow4⟩
      case measure => simp [intOf]; omega
    · obtain rfl : k = len := by omega
      have HE : Hid (T.take k = T) := List.take_of_length_le (by rw [HTL.out]; exact Nat.le_refl _)
      obtain ⟨a9, c9, rfl, hD⟩ := Dgs.of_owns hown (leavesL_dg _ x)
      rw [HE.out] at hD
      clear hown
      go_wp2
      go_ret
      exact ⟨a9, c9, rfl, hD, hlow⟩
end Go.Proofs.YtbednfacipphhaaDoor
namespace Go.Proofs.YtbednfacipphhaaDoor
open Go.RowKit
set_option linter.unusedVariables false

/-- how leaves ends -/
def LvP (T : List (List Int)) (n : Int) (w : World) (e : Ending) (w' : World) : Prop :=
  (n < 0 ∨ (T.length : Int) < n) ∧ e = .returned (.tuple #[.slice none 0 0, .int .i64 9]) ∧ Below w.heap.size w w' ∨
  (0 ≤ n ∧ n ≤ (T.length : Int)) ∧ (∃ a c, e = .returned (.tuple #[.slice a n.toNat c, .int .i64 0]) ∧ Dgs w' a n.toNat c (leavesL (T.take n.toNat) 256)) ∧ Below w.heap.size w w'
set_option maxHeartbeats 4000000 in
set_option maxRecDepth 100000 in
theorem leaves21_any (own : Nat → Prop) (g : Nat) (K : List Int) (T : List (List Int)) (n : Int) (w : World) (h : Lg w own g K T) (htab : Tab w) :
    Calls Tryd.prog 54 #[.pointer (some ⟨g, 0, none⟩), .int .i64 n] w (LvP T n w) := by
  have HG := Bx.mk h
  have HT := Bx.mk htab
  have c66 := h.c66
  have HTL : Bx (T.length ≤ 64) := ⟨h.le⟩
  by_cases hn0 : n < 0
  · have hq : decide (n < 0) = true := decide_eq_true hn0
    have HF : Bx (∀ W, Below w.heap.size w W → LvP T n w (.returned (.tuple #[.slice none 0 0, .int .i64 9])) W) := ⟨fun W hb => .inl ⟨.inl hn0, rfl, hb⟩⟩
    clear hn0 h htab
    go_enter Tryd.func54, Tryd.ntmps54
    go_wp2_with fail
    refine (made21_yes HG.out).mono ?_
    rintro e wz ⟨rfl, hwz⟩
    subst hwz
    go_wp2_with fail
    go_ret2
    exact HF.out _ (Below.refl _ _)
  by_cases hnT : (T.length : Int) < n
  · have hq : decide (n < 0) = false := decide_eq_false hn0
    have hq2 : decide ((T.length : Int) < n) = true := decide_eq_true hnT
    have HF : Bx (∀ W, Below w.heap.size w W → LvP T n w (.returned (.tuple #[.slice none 0 0, .int .i64 9])) W) := ⟨fun W hb => .inl ⟨.inr hnT, rfl, hb⟩⟩
    clear hn0 hnT h htab
    go_enter Tryd.func54, Tryd.ntmps54
    go_wp2_with fail
    refine (made21_yes HG.out).mono ?_
    rintro e wz ⟨rfl, hwz⟩
    subst hwz
    go_wp2_with fail
    go_ret2
    exact HF.out _ (Below.refl _ _)
  obtain ⟨m, rfl⟩ : ∃ m : Nat, n = (m : Int) := ⟨n.toNat, by omega⟩
  have hm : m ≤ T.length := by omega
  have hq : decide ((m : Int) < 0) = false := decide_eq_false hn0
  have hq2 : decide (T.length < m) = false := decide_eq_false (by omega)
  have HTM : Bx ((T.take m).length = m) := ⟨by rw [List.length_take]; omega⟩
  have HGT : Bx (∀ k, k < m → (T.take m).getD k [] = T.getD k []) := ⟨fun k hk => by rw [List.getD_eq_getElem?_getD, List.getElem?_take, if_pos hk, ← List.getD_eq_getElem?_getD]⟩
  have HMT : Bx (m ≤ T.length) := ⟨hm⟩
  obtain ⟨i0, hi0, hz0, hz1, hz2⟩ := info_parts dgs_info
  have hm64 : m ≤ 64 := Nat.le_trans hm HTL.out
  have hmL : m ≤ 1000 := by omega
  clear h htab hn0 hnT hm
  go_enter Tryd.func54, Tryd.ntmps54
  go_wp2_with fail
  refine (made21_yes HG.out).mono ?_
  rintro e wz ⟨rfl, hwz⟩
  subst hwz
  go_wp2_with (at_make; refine wpList_make_full _ rfl _ _ 60 rfl w.heap.size 30 i0 (.agg #[.int .u8 0, .int .u8 0, .int .u8 0, .int .u8 0, .int .u8 0, .int .u8 0, .int .u8 0, .int .u8 0, .int .u8 0, .int .u8 0, .int .u8 0, .int .u8 0, .int .u8 0, .int .u8 0, .int .u8 0, .int .u8 0, .int .u8 0, .int .u8 0, .int .u8 0, .int .u8 0, .int .u8 0, .int .u8 0, .int .u8 0, .int .u8 0, .int .u8 0, .int .u8 0, .int .u8 0, .int .u8 0, .int .u8 0, .int .u8 0, .int .u8 0, .int .u8 0]) 32 Tryd.underlying60 hi0 hz0 hz1 _ _ _ _ m rfl rfl rfl rfl (by rw [hz2]; omega) (by unfold maxLen; omega) (Nat.le_refl _) ?_)
  intro w1 hown hgrow
  have hb1 : Below w.heap.size w w1 := (Below.refl _ _).grown hgrow (Nat.le_refl _) (by intro k hk; cases hk)
  rw [made_zeros, ← leavesAt_zero (T.take m) 256 m] at hown
  have hLV : LV w.heap.size m (leavesAt (T.take m) 256 m 0) w w1 := ⟨hb1, by rw [leavesAt_zero]; exact fun d hd => by rw [List.eq_of_mem_replicate hd]; exact z0_dg, by rw [leavesAt_zero, List.length_replicate], row_whole hown⟩
  clear hgrow hown hb1 hi0 hz0 hz1 hz2 c66
  obtain ⟨N, HN⟩ : ∃ N, Bx (N = w.heap.size) := ⟨_, ⟨rfl⟩⟩
  rw [← HN.out] at hLV ⊢
  go_wp2
  go_loopw [27] (fun i wr => ∃ k : Nat, k ≤ m ∧ i = .int .i64 k ∧ LV N m (leavesAt (T.take m) 256 m k) w wr) (fun i _ => m - (intOf i).toNat)
  case atStart => exact ⟨0, Nat.zero_le _, rfl, hLV⟩
  case round =>
    clear hLV
    obtain ⟨k, hk, rfl, hLV⟩ := hrel
    have hlow : Below w.heap.size w wr := by rw [← HN.out]; exact hLV.low
    by_cases hlt : k < m
    · have g1 : (k : Int) < (m : Int) := by omega
      have hk64 : (k : Int) < 64 := by omega
      obtain ⟨ai, li, ci, hcell, hbt, hli0⟩ := (HG.out.below hlow).ct k (by have := HMT.out; omega)
      have HMO : Bx ((leavesAt (T.take m) 256 m k).set k (leafL (T.getD k []) 256) = leavesAt (T.take m) 256 m (k + 1)) := ⟨by rw [← HGT.out k hlt]; exact leavesAt_more (T.take m) 256 m k HTM.out hlt⟩
      generalize T.getD k [] = t at hbt HMO
      have hli : li ≤ 1000000 := by omega
      have htb := HT.out.below hlow
      have hZd := leafL_dg t 256
      clear hli0
      go_wp2_with fail
      refine (leaf_any ai li ci t 256 _ hbt htb hli).mono ?_
      rintro e w2 ⟨rfl, hb2⟩
      have hL2 := hLV.step hb2
      generalize leafL t 256 = Z at hZd HMO
      have hth := hL2.there k hlt
      have hL3 := hL2.store k hlt Z hZd
      rw [HMO.out] at hL3
      have HTH : Bx (w2.there N (k * 32) (bv Z).toArray.size) := ⟨by rw [List.size_toArray, bv_length, hZd.1]; exact hth⟩
      have HI : Bx ((Tryd.prog.info? 30).map (·.size) = some (bv Z).toArray.size) := ⟨by rw [List.size_toArray, bv_length, hZd.1]; exact dig_info⟩
      have HO : Bx ((bv Z).toArray.all (·.oneCell') = true) := ⟨all_oneCell_toArray (bv_one _)⟩
      have HL3 : Bx _ := ⟨hL3⟩
      generalize (bv Z).toArray = D at HTH HI HO HL3 ⊢
      clear hLV hL2 hth hL3 hb2 hbt htb hcell hlow HMO hZd
      go_wp2_with (refine wpList_store_mid rfl 30 (.tmp 39) (.tmp 38) rfl N (k * 32) D rfl rfl ?ht HI.out HO.out ?_; (case ht => exact HTH.out))
      go_roundw
      case rel => exact ⟨k + 1, by omega, by go_num, HL3.out⟩
      case measure => simp [intOf]; omega
    · obtain rfl : k = m := by omega
      have HE : Bx (leavesAt (T.take k) 256 k k = leavesL (T.take k) 256) := ⟨leavesAt_end (T.take k) 256 k HTM.out⟩
      rw [HE.out] at hLV
      have hD := hLV.dgs (by unfold maxLen; omega)
      have HF : Bx (LvP T (k : Int) w (.returned (.tuple #[.slice (some ⟨N, 0, none⟩) k k, .int .i64 0])) wr) := ⟨.inr ⟨⟨Int.natCast_nonneg k, by have := HMT.out; omega⟩, ⟨_, _, rfl, hD⟩, hlow⟩⟩
      clear hLV HE hD
      go_wp2
      go_ret2
      exact HF.out
end Go.Proofs.YtbednfacipphhaaDoor
