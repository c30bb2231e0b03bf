/- What slices.Concat answers for two lists of digests; a way up a tree. -/
import Derived.Test.YtfkloilbjfleeaaDoorConcat
import Derived.Test.YtfkloilbjfleeaaDoorSme
namespace Go.Proofs.YtfkloilbjfleeaaDoor
open Go.RowKit
set_option linter.unusedVariables false

set_option maxRecDepth 100000 in
theorem wpList_dig_zeros {ops : Array Oper} {rest : List Oper} {o : Oper} {a : Act} {w : World} {Q : Exit → Act → World → Prop} (hgd : o.guard = none) (s x : Operand)
    (ho : o.op = .call { callee := .builtin .append, args := #[s, x], argTypes := #[30, 3] })
    (k : Nat) (hs : a.eval s = .slice none 0 0) (hx : a.eval x = .int .i64 k) (hk : 0 < k) (hbd : k ≤ 1000000)
    (h : ∀ cap w', cap ≤ maxLen → w'.ownsRow w.heap.size 42 32 (.slice (some ⟨w.heap.size, 0, none⟩) 0 cap) 0 (bv (([] : List (List Int)).flatten)) → Below w.heap.size w w' → wpList Tryd.prog ops Q rest (a.put o.dst (.slice (some ⟨w.heap.size, 0, none⟩) k cap)) w') : wpList Tryd.prog ops Q (o :: rest) a w := by
  obtain ⟨i0, hi, hz0, hz1, hz2⟩ := info_parts dgs_info
  have hr := Lib.run_append_nil_zeros (P := Tryd.prog) w 30 3 o.type 42 i0 (.agg #[.int .u8 0, .int .u8 0, .int .u8 0, .int .u8 0, .int .u8 0, .int .u8 0, .int .u8 0, .int .u8 0, .int .u8 0, .int .u8 0, .int .u8 0, .int .u8 0, .int .u8 0, .int .u8 0, .int .u8 0, .int .u8 0, .int .u8 0, .int .u8 0, .int .u8 0, .int .u8 0, .int .u8 0, .int .u8 0, .int .u8 0, .int .u8 0, .int .u8 0, .int .u8 0, .int .u8 0, .int .u8 0, .int .u8 0, .int .u8 0, .int .u8 0, .int .u8 0]) .i64 .i64 Tryd.underlying30 Tryd.underlying3 hi hz0 k hk (by rw [hz1]; decide) (by omega) (by rw [hz2]; omega)
  have hcap : k ≤ grownCap w k 0 42 ∧ grownCap w k 0 42 ≤ maxLen := ⟨grownCap_ge _ _ _ _, grownCap_le_maxLen _ _ _ _ (by unfold maxLen; omega)⟩
  refine Lib.wpList_append_run w hgd s x 30 3 ho _ _ hs hx _ _ hr (h _ _ hcap.2 ?_ ?_)
  · refine ⟨rfl, .inr ⟨w.heap.size, _, _, rfl, Nat.le_refl _, heap_alloc_new w.drew _, Nat.zero_le _, hcap.2, ?_, by simp [bv]⟩⟩
    rw [Array.size_append, size_zeroCells, size_zeroCells]
    show k * 32 + (_ - k) * 32 = _ * 32
    rw [← Nat.add_mul]; congr 1; omega
  · exact (Below.refl _ w).drew.alloc (Nat.le_refl _) _

set_option maxRecDepth 100000 in
set_option maxHeartbeats 400000 in
theorem dgrow_any (k : Nat) (w : World) (hk : k ≤ 1000000) :
    Calls Tryd.prog 80 #[.slice none 0 0, .int .i64 k] w fun e w' => ∃ v, e = .returned v ∧ w'.ownsRow w.heap.size 42 32 v 0 (bv (([] : List (List Int)).flatten)) ∧ Below w.heap.size w w' := by
  by_cases h0 : k = 0
  · subst h0
    go_enter Tryd.func80, Tryd.ntmps80
    go_wp2
    go_ret
    exact ⟨_, rfl, World.ownsRow_nil _ _ _ _, Below.refl _ _⟩
  · have h1 : (0 : Int) < (k : Int) := by omega
    go_enter Tryd.func80, Tryd.ntmps80
    go_wp2_with (at_builtin; refine wpList_dig_zeros rfl (.tmp 20) (.tmp 21) rfl k rfl rfl (by omega) hk ?_; intro cap w1 hcap ho2 hb; unfold maxLen at hcap; have hsl := dgs_cut w.heap.size 0 k cap 0 (Nat.zero_le _))
    go_ret
    exact ⟨_, rfl, ho2, hb⟩

set_option maxRecDepth 100000 in
set_option maxHeartbeats 1000000 in
theorem dconcat_any (b : Nat) (a0 a1 : Option Addr) (n0 n1 c0 c1 : Nat) (L0 L1 : List (List Int)) (w : World) (h0 : w.cell? ⟨b, 0, none⟩ = some (.slice a0 n0 c0)) (h1 : w.cell? ⟨b, 1, none⟩ = some (.slice a1 n1 c1)) (hblt : b < w.heap.size)
    (B0 : Dgs w a0 n0 c0 L0) (B1 : Dgs w a1 n1 c1 L1) (hbd : n0 + n1 ≤ 1000000) :
    Calls Tryd.prog 66 #[.slice (some ⟨b, 0, none⟩) 2 2] w fun e w' => ∃ a c, e = .returned (.slice a (n0 + n1) c) ∧ Dgs w' a (n0 + n1) c (L0 ++ L1) ∧ Below w.heap.size w w' := by
  have hcell : ∀ i, i < 2 → w.cell? ⟨b, i, none⟩ = some (.slice (if i = 0 then a0 else a1) (if i = 0 then n0 else n1) (if i = 0 then c0 else c1)) := by
    intro i hi
    match i, hi with
    | 0, _ => exact h0
    | 1, _ => exact h1
  have hB : ∀ i, i < 2 → Dgs w (if i = 0 then a0 else a1) (if i = 0 then n0 else n1) (if i = 0 then c0 else c1) (if i = 0 then L0 else L1) := by
    intro i hi
    match i, hi with
    | 0, _ => exact B0
    | 1, _ => exact B1
  have HD : Bx (Dgl (L0 ++ L1)) := ⟨B0.dig.append B1.dig⟩
  have HL0 : Bx (L0.length = n0) := ⟨B0.len_eq⟩
  have HL1 : Bx (L1.length = n1) := ⟨B1.len_eq⟩
  clear h0 h1 B0 B1
  go_enter Tryd.func66, Tryd.ntmps66
  go_wp2
  go_loop [3, 11] (fun s i => ∃ j m : Nat, j ≤ 2 ∧ m = (if j = 0 then 0 else if j = 1 then n0 else n0 + n1) ∧ s = .int .i64 m ∧ i = .int .i64 j) (fun _ i => 2 - (intOf i).toNat)
  case atStart => exact ⟨0, 0, Nat.zero_le _, rfl, rfl, rfl⟩
  case round =>
    obtain ⟨j, m, hj, hm, rfl, rfl⟩ := hrel
    have hmle : m ≤ n0 + n1 := by
      rw [hm]; split
      · omega
      · split <;> omega
    by_cases hlt : j < 2
    · have hc := hcell j hlt
      have HM : Hid (m + (if j = 0 then n0 else n1) = (if j + 1 = 0 then 0 else if j + 1 = 1 then n0 else n0 + n1)) := by
        show _ = _
        rw [hm]
        match j, hlt with
        | 0, _ => simp
        | 1, _ => simp
      have hnj : (if j = 0 then n0 else n1) ≤ n0 + n1 := by split <;> omega
      generalize (if j = 0 then a0 else a1) = aj at hc
      generalize (if j = 0 then n0 else n1) = nj at hc HM hnj
      generalize (if j = 0 then c0 else c1) = cj at hc
      have j0 : (j : Int) < 2 := by omega
      clear hm hB hcell
      go_wp2
      go_round
      case rel => exact ⟨j + 1, m + nj, by omega, HM.out, by go_num, by go_num⟩
      case measure => simp [intOf]; omega
    · obtain rfl : j = 2 := by omega
      obtain rfl : m = n0 + n1 := by simpa using hm
      clear hm
      go_wp2_with fail
      refine (dgrow_any (n0 + n1) _ hbd).mono ?_
      rintro e w1 ⟨v, rfl, hown, hb1⟩
      go_wp2
      go_loopw [6, 27] (fun s i wr => ∃ q : Nat, q ≤ 2 ∧ i = .int .i64 q ∧ wr.ownsRow w.heap.size 42 32 s (if q = 0 then 0 else if q = 1 then n0 else n0 + n1) (bv (if q = 0 then [] else if q = 1 then L0 else L0 ++ L1).flatten) ∧ Below w.heap.size w wr) (fun _ i _ => 2 - (intOf i).toNat)
      case atStart => exact ⟨0, Nat.zero_le _, rfl, hown, hb1⟩
      case round =>
        clear hown hb1
        obtain ⟨q, hq, rfl, hown, hb1⟩ := hrel
        by_cases hlt2 : q < 2
        · have hc := (hb1.cell (p := ⟨b, q, none⟩) hblt).trans (hcell q hlt2)
          have hbt := (hB q hlt2).below hb1
          have HM : Hid ((if q = 0 then 0 else if q = 1 then n0 else n0 + n1) + (if q = 0 then n0 else n1) = (if q + 1 = 0 then 0 else if q + 1 = 1 then n0 else n0 + n1)) := by
            show _ = _
            match q, hlt2 with
            | 0, _ => simp
            | 1, _ => simp
          have HC : Bx ((if q = 0 then [] else if q = 1 then L0 else L0 ++ L1) ++ (if q = 0 then L0 else L1) = (if q + 1 = 0 then [] else if q + 1 = 1 then L0 else L0 ++ L1)) := ⟨by
            match q, hlt2 with
            | 0, _ => simp
            | 1, _ => simp⟩
          have hql : (if q = 0 then 0 else if q = 1 then n0 else n0 + n1) + (if q = 0 then n0 else n1) ≤ n0 + n1 := by
            match q, hlt2 with
            | 0, _ => simp
            | 1, _ => simp
          have hsz := hb1.size
          generalize (if q = 0 then a0 else a1) = aj at hc hbt
          generalize (if q = 0 then n0 else n1) = nj at hc hbt hql HM
          generalize (if q = 0 then c0 else c1) = cj at hc hbt
          generalize (if q = 0 then L0 else L1) = lj at hbt HC
          generalize (if q = 0 then 0 else if q = 1 then n0 else n0 + n1) = ln at hown hql HM
          generalize (if q = 0 then [] else if q = 1 then L0 else L0 ++ L1) = PL at hown HC
          have j0 : (q : Int) < 2 := by omega
          clear hcell hB
          go_wp2_with (at_builtin; refine wpList_append_dgs rfl (.tmp 31) (.tmp 32) rfl w.heap.size ln _ PL rfl hown aj nj cj lj rfl hbt (by omega) hsz ?_; intro v' w' ho' hb' _; have hb2 := hb1.trans hb'; rw [HM.out, HC.out] at ho'; clear hb' hown hbt hc)
          go_roundw
          case rel => exact ⟨q + 1, by omega, by go_num, ho', hb2⟩
          case measure => simp [intOf]; omega
        · obtain rfl : q = 2 := by omega
          have hown2 : wr.ownsRow w.heap.size 42 32 u6 (n0 + n1) (bv (L0 ++ L1).flatten) := hown
          obtain ⟨a9, c9, rfl, hD⟩ := Dgs.of_owns hown2 HD.out
          clear hown hown2 hcell hB
          go_wp2
          go_ret
          exact ⟨a9, c9, rfl, hD, hb1⟩

set_option maxRecDepth 100000 in
set_option maxHeartbeats 400000 in
theorem way_any (d : List Int) (a : Option Addr) (n c : Nat) (L : List (List Int)) (w : World) (hd : Dg d) (hL : Dgs w a n c L) (hn : n ≤ 100000) :
    Calls Tryd.prog 41 #[.agg (bv d).toArray, .slice a n c] w fun e w' => ∃ a' c', e = .returned (.slice a' (1 + n) c') ∧ Dgs w' a' (1 + n) c' (d :: L) ∧ Below w.heap.size w w' := by
  have hb0 : Below w.heap.size w (w.alloc (.cells (bv d).toArray 42)) := (Below.refl _ _).alloc (Nat.le_refl _) _
  have hr0 : (w.alloc (.cells (bv d).toArray 42)).heap[w.heap.size]? = some (.cells (bv d).toArray 42 (0, 0)) := heap_alloc_new _ _
  have hs0 : (w.alloc (.cells (bv d).toArray 42)).heap.size = w.heap.size + 1 := by simp
  have HID : Bx ((Tryd.prog.info? 42).map (·.size) = some (bv d).toArray.size) := ⟨by rw [List.size_toArray, bv_length, hd.1]; exact dig_info⟩
  have HR0 : Bx _ := ⟨hr0⟩
  have hone := one_new (w.alloc (.cells (bv d).toArray 42)) d hd
  have hL0 := hL.below hb0
  have HB0 : Bx _ := ⟨hb0⟩
  have HS0 : Bx _ := ⟨hs0⟩
  have HONE : Bx _ := ⟨hone⟩
  have HL0 : Bx _ := ⟨hL0⟩
  clear hb0 hr0 hone hL hL0 hs0
  go_enter Tryd.func41, Tryd.ntmps41
  go_wp2_with (first
    | (refine wpList_load_row rfl 42 (.tmp 2) rfl w.heap.size rfl 42 (bv d).toArray (0, 0) _ HR0.out Tryd.underlying42 rfl HID.out ?_)
    | (refine wpList_build_one rfl (.tmp 5) rfl d hd.1 rfl ?_))
  have hb0 := HB0.out
  have hs0 := HS0.out
  have hone := HONE.out
  have hL0 := HL0.out
  clear HB0 HS0 HONE HL0 HR0 HID
  generalize w.alloc (.cells (bv d).toArray 42) = w0 at hb0 hs0 hone hL0 ⊢
  have hb1 : Below w0.heap.size w0 (w0.alloc (.cells (bv d).toArray 42)) := (Below.refl _ _).alloc (Nat.le_refl _) _
  have hL1 := hL0.below hb1
  have hs1 : (w0.alloc (.cells (bv d).toArray 42)).heap.size = w0.heap.size + 1 := by simp
  generalize w0.alloc (.cells (bv d).toArray 42) = w1 at hone hb1 hL1 hs1 ⊢
  clear hL0
  rw [hs0] at hone
  have hrow2 : (w1.alloc (.cells #[.slice (some ⟨w.heap.size + 1, 0, none⟩) 1 1, .slice a n c] 30)).heap[w.heap.size + 1 + 1]? = some (.cells #[.slice (some ⟨w.heap.size + 1, 0, none⟩) 1 1, .slice a n c] 30 (0, 0)) := by
    rw [show w.heap.size + 1 + 1 = w1.heap.size from by omega]; exact heap_alloc_new _ _
  have hb2 : Below w1.heap.size w1 (w1.alloc (.cells #[.slice (some ⟨w.heap.size + 1, 0, none⟩) 1 1, .slice a n c] 30)) := (Below.refl _ _).alloc (Nat.le_refl _) _
  generalize w1.alloc (.cells #[.slice (some ⟨w.heap.size + 1, 0, none⟩) 1 1, .slice a n c] 30) = w2 at hrow2 hb2 ⊢
  have hlow2 := bstep hb0 (bstep hb1 hb2)
  refine (dconcat_any (w.heap.size + 1 + 1) _ _ 1 n 1 c [d] L _ (cell_of_row _ _ 0 _ _ (0, 0) hrow2) (cell_of_row _ _ 1 _ _ (0, 0) hrow2) (Array.getElem?_eq_some_iff.1 hrow2).1 (hone.below hb2) (hL1.below hb2) (by omega)).mono ?_
  rintro e w3 ⟨a3, c3, rfl, hB3, hb3⟩
  have hlow3 := bstep hlow2 hb3
  clear hlow2 hrow2 hb2 hone hb1 hs1 hs0 hb3 hL1 hb0
  go_wp2
  go_ret
  exact ⟨a3, c3, rfl, hB3, hlow3⟩
end Go.Proofs.YtfkloilbjfleeaaDoor
