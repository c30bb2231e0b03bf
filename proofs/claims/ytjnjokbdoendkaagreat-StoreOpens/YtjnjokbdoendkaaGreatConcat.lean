/- What slices.Concat answers for bytes: all of the parts, in memory of its own. -/
import Derived.Test.YtjnjokbdoendkaaGreatAppBts
import Derived.Test.YtjnjokbdoendkaaGreatAppZeros
namespace Go.Proofs.YtjnjokbdoendkaaGreat
open Go.RowKit
set_option linter.unusedVariables false

set_option maxRecDepth 100000 in
theorem owns_none {w : World} {base g n cap : Nat} {xs : List Value} (h : w.ownsRow base 5 1 (.slice (some ⟨g, 0, none⟩) n cap) n xs) : w.ownsRow base 5 1 (.slice (some ⟨g, 0, none⟩) 0 cap) 0 (bv []) := by
  refine ⟨rfl, ?_⟩
  rcases h.2 with ⟨h2, _⟩ | ⟨g', cap', cur, hv, hg, hh, hn, hm, hs, _⟩
  · cases h2
  · cases hv
    exact .inr ⟨g, cap, cur, rfl, hg, hh, Nat.zero_le _, hm, hs, by simp [bv]⟩
set_option maxRecDepth 100000 in
theorem owns_cap {w : World} {base g n cap size : Nat} {e : TypeId} {xs : List Value} (h : w.ownsRow base e size (.slice (some ⟨g, 0, none⟩) n cap) n xs) : n ≤ cap ∧ cap ≤ maxLen := by
  rcases h.2 with ⟨h2, _⟩ | ⟨g', cap', cur, hv, hg, hh, hn, hm, hs, _⟩
  · cases h2
  · cases hv; exact ⟨hn, hm⟩
set_option maxRecDepth 100000 in
set_option maxHeartbeats 400000 in
theorem grow_any (k : Nat) (w : World) (hk : k ≤ 1099511627776) :
    Calls Tryz.prog 125 #[.slice none 0 0, .int .i64 k] w fun e w' => ∃ v, e = .returned v ∧ w'.ownsRow w.heap.size 5 1 v 0 (bv []) ∧ Below w.heap.size w w' := by
  by_cases h0 : k = 0
  · subst h0
    go_enter Tryz.func125, Tryz.ntmps125
    go_wp2
    go_ret
    exact ⟨_, rfl, World.ownsRow_nil _ _ _ _, Below.refl _ _⟩
  · have h1 : (0 : Int) < (k : Int) := by omega
    have hn := World.ownsRow_nil w w.heap.size 5 1
    go_enter Tryz.func125, Tryz.ntmps125
    go_wp2_with (at_builtin; refine wpList_app_zeros rfl (.tmp 20) (.tmp 21) rfl w.heap.size 0 k _ [] rfl rfl hn (by omega) (Nat.le_refl _) ?_; intro v1 w1 ho hb; obtain ⟨g, cap, rfl, hg, hlt⟩ := owns_form ho (by omega); have hcap := (owns_cap ho).2; unfold maxLen at hcap; have ho2 := owns_none ho; clear ho)
    go_ret
    exact ⟨_, rfl, ho2, hb⟩
/-- the first i parts together -/
def catL (L : Nat → List Int) : Nat → List Int
  | 0 => []
  | i + 1 => catL L i ++ L i
set_option maxRecDepth 100000 in
theorem catL_le (L : Nat → List Int) (i k : Nat) (h : i ≤ k) : (catL L i).length ≤ (catL L k).length := by
  induction k with
  | zero => have : i = 0 := by omega
            rw [this]; exact Nat.le_refl _
  | succ k ih =>
    by_cases hi : i = k + 1
    · rw [hi]; exact Nat.le_refl _
    · have := ih (by omega)
      show _ ≤ (catL L k ++ L k).length
      rw [List.length_append]; omega
set_option maxRecDepth 100000 in
set_option maxHeartbeats 1000000 in
theorem concat_any (k b : Nat) (a : Nat → Option Addr) (n c : Nat → Nat) (L : Nat → List Int) (w : World) (hcell : ∀ i, i < k → w.cell? ⟨b, i, none⟩ = some (.slice (a i) (n i) (c i))) (hblt : b < w.heap.size)
    (hB : ∀ i, i < k → Bts w (a i) (n i) (c i) (L i)) (hbd : (catL L k).length ≤ 1099511627776) (hk : k ≤ 1000) :
    Calls Tryz.prog 107 #[.slice (some ⟨b, 0, none⟩) k k] w fun e w' => ∃ v, e = .returned v ∧ w'.ownsRow w.heap.size 5 1 v (catL L k).length (bv (catL L k)) ∧ Below w.heap.size w w' := by
  go_enter Tryz.func107, Tryz.ntmps107
  go_wp2
  go_loop [3, 11] (fun s i => ∃ j m : Nat, j ≤ k ∧ m = (catL L j).length ∧ s = .int .i64 m ∧ i = .int .i64 j) (fun _ i => k - (intOf i).toNat)
  case atStart => exact ⟨0, 0, Nat.zero_le _, rfl, rfl, rfl⟩
  case round =>
    obtain ⟨j, m, hj, hm, rfl, rfl⟩ := hrel
    have hmle : m ≤ 1099511627776 := by rw [hm]; exact Nat.le_trans (catL_le L j k hj) hbd
    by_cases hlt : j < k
    · have hc := hcell j hlt
      have hx : j + 1 ≤ k := hlt
      have HM : Hid (m + n j = (catL L (j + 1)).length) := by
        show _ = (catL L j ++ L j).length
        rw [List.length_append, hm, (hB j hlt).len_eq]
      have hmn : m + n j ≤ 1099511627776 := by rw [HM.out]; exact Nat.le_trans (catL_le L _ k hx) hbd
      generalize a j = aj at hc
      generalize n j = nj at hc HM hmn
      generalize c j = cj at hc
      have j0 : (j : Int) < (k : Int) := by omega
      have HH : Hid (m = (catL L j).length) := hm
      clear hm hB hcell
      go_wp2
      go_round
      case rel => exact ⟨j + 1, m + nj, by omega, HM.out, by go_num, by go_num⟩
      case measure => simp [intOf]; omega
    · obtain rfl : j = k := by omega
      have HM : Hid (m = (catL L j).length) := hm
      clear hm
      go_wp2_with fail
      refine (grow_any m _ hmle).mono ?_
      rintro e w1 ⟨v, rfl, hown, hb1⟩
      go_wp2
      go_loopw [6, 27] (fun s i wr => ∃ q : Nat, q ≤ j ∧ i = .int .i64 q ∧ wr.ownsRow w.heap.size 5 1 s (catL L q).length (bv (catL L q)) ∧ Below w.heap.size w wr) (fun _ i _ => j - (intOf i).toNat)
      case atStart => exact ⟨0, Nat.zero_le _, rfl, hown, hb1⟩
      case round =>
        clear hown hb1
        obtain ⟨q, hq, rfl, hown, hb1⟩ := hrel
        by_cases hlt2 : q < j
        · have hc := (hb1.cell (p := ⟨b, q, none⟩) hblt).trans (hcell q hlt2)
          have hbt := (hB q hlt2).below hb1
          have hql : (catL L q).length + n q ≤ 1099511627776 := by
            have := catL_le L (q + 1) j hlt2
            have e : (catL L (q + 1)).length = (catL L q).length + (L q).length := by show (catL L q ++ L q).length = _; rw [List.length_append]
            rw [e, (hB q hlt2).len_eq] at this
            omega
          have HM : Hid ((catL L q).length + n q = (catL L (q + 1)).length) := by
            show _ = (catL L q ++ L q).length
            rw [List.length_append, (hB q hlt2).len_eq]
          have HC : Bx (catL L q ++ L q = catL L (q + 1)) := ⟨rfl⟩
          have hsz := hb1.size
          generalize a q = aj at hc hbt
          generalize n q = nj at hc hbt hql HM
          generalize c q = cj at hc hbt
          generalize (catL L q).length = ln at hown hql HM
          have j0 : (q : Int) < (j : Int) := by omega
          clear hcell hB
          go_wp2_with (at_builtin; refine wpList_append_bts rfl (.tmp 31) (.tmp 32) rfl w.heap.size ln _ (catL L q) rfl hown aj nj cj (L q) rfl hbt (by omega) hsz ?_; intro v' w' ho' hb' hg'; have hb2 := hb1.trans hb'; rw [HM.out, HC.out] at ho'; clear hb' hg' hown hbt hc)
          go_roundw
          case rel => exact ⟨q + 1, by omega, by go_num, ho', hb2⟩
          case measure => simp [intOf]; omega
        · obtain rfl : q = j := by omega
          go_wp2
          go_ret
          exact ⟨_, rfl, hown, hb1⟩
end Go.Proofs.YtjnjokbdoendkaaGreat
