/- Noughts behind an own row of bytes: 'append(b, make([]byte, n)...)'. What slices.Concat answers for bytes: all of the parts, in memory of its own. The sum of a leaf and of two sums: merkle's, and the document's own. -/
import Derived.Test.YtbednfacipphhaaDoorAuag
import Derived.Test.YtbednfacipphhaaDoorBase
import Derived.Laws.CopyOwn
import Derived.Lib.AppendZerosOnto
import Derived.Test.YtbednfacipphhaaDoorAuav
import Derived.Test.YtbednfacipphhaaDoorAuau
import Derived.Test.YtbednfacipphhaaDoorAuaf
namespace Go.Proofs.YtbednfacipphhaaDoor
open Go.RowKit
set_option linter.unusedVariables false

set_option maxRecDepth 100000 in
theorem zeros_bv (k : Nat) : Builtin.zeroCells (Value.int .u8 0).cells k = (bv (List.replicate k 0)).toArray := by
  apply Array.ext
  · simp [Builtin.zeroCells, Value.cells, bv]
  · intro j h1 h2
    simp [Builtin.zeroCells, Value.cells, bv, Nat.mod_one]
set_option maxRecDepth 100000 in
/-- a new row that begins with the bytes l is owned -/
theorem owns_fresh (w : World) (base cap n : Nat) (l : List Int) (rest : Array Value) (hl : l.length = n) (hr : n + rest.size = cap) (hm : cap ≤ maxLen) (hb : base ≤ w.heap.size) :
    (w.alloc (.cells ((bv l).toArray ++ rest) 5)).ownsRow base 5 1 (.slice (some ⟨w.heap.size, 0, none⟩) n cap) n (bv l) := by
  refine ⟨by rw [bv_length, hl, Nat.mul_one], .inr ⟨w.heap.size, cap, _, rfl, hb, heap_alloc_new w _, by omega, hm, ?_, ?_⟩⟩
  · rw [Array.size_append, List.size_toArray, bv_length, hl, Nat.mul_one]; exact hr
  · rw [Array.toList_append, Nat.mul_one, ← hl, ← bv_length]; exact List.take_left
set_option maxRecDepth 100000 in
theorem app_zeros (w : World) (ty : TypeId) (base n k : Nat) (v : Value) (l : List Int) (hown : w.ownsRow base 5 1 v n (bv l)) (hbd : n + k ≤ 1099511627776) (hbase : base ≤ w.heap.size) :
    ∃ v' w', (Builtin.append_ #[22, 3] ty #[v, .int .i64 k]).run Tryd.prog w = .ok v' w' ∧ w'.ownsRow base 5 1 v' (n + k) (bv (l ++ List.replicate k 0)) ∧ Below base w w' := by
  obtain ⟨i0, hi, hz0, hz1, hz2⟩ := info_parts Tryd.info5
  have hs := Tryd.underlying22
  have hn := Tryd.underlying3
  have hlen : l.length = n := by have := hown.1; rw [bv_length, Nat.mul_one] at this; exact this
  have hw : IntKind.i64.wrap (k : Int) = k := by rw [IntKind.wrap_i64]; omega
  have hw0 : IntKind.i64.wrap 0 = 0 := by rw [IntKind.wrap_i64]; rfl
  have hcap : ∀ old, n + k ≤ grownCap w (n + k) old 5 ∧ grownCap w (n + k) old 5 ≤ maxLen := fun old => ⟨grownCap_ge _ _ _ _, grownCap_le_maxLen _ _ _ _ (by unfold maxLen; omega)⟩
  have hlow : ∀ o, Below base w (w.drew.alloc o) := fun o => (Below.refl base w).drew.alloc hbase o
  have hll : (l ++ List.replicate k 0).length = n + k := by rw [List.length_append, List.length_replicate, hlen]
  rcases hown.2 with ⟨rfl, rfl⟩ | ⟨g, cap, cur, rfl, hbg, hg, hnc, hcm, hcs, htake⟩
  · obtain rfl : l = [] := List.eq_nil_of_length_eq_zero hlen
    by_cases hk : k = 0
    · subst hk
      refine ⟨.slice none 0 0, w, ?_, World.ownsRow_nil _ _ _ _, Below.refl _ _⟩
      simp [Builtin.append_, run_underlying hs, run_underlying hn, sizeOf, typeInfo, hi, asInt, asIntOf, hw0]
    · have hr := Lib.run_append_nil_zeros (P := Tryd.prog) w 22 3 ty 5 i0 (.int .u8 0) .i64 .i64 hs hn hi hz0 k (by omega) (by rw [hz1]; decide) (by omega) (by rw [hz2]; omega)
      rw [zeros_bv] at hr
      refine ⟨_, _, hr, ?_, hlow _⟩
      have hc := hcap 0
      rw [Nat.zero_add] at hc ⊢
      exact owns_fresh w.drew base _ k _ _ (by simp) (by rw [size_zeroCells]; simp [Value.cells]; omega) hc.2 hbase
  · rw [Nat.mul_one] at hcs htake
    by_cases hroom : n + k ≤ cap
    · by_cases hk : k = 0
      · subst hk
        refine ⟨.slice (some ⟨g, 0, none⟩) n cap, w, ?_, by rw [List.replicate_zero, List.append_nil]; exact hown, Below.refl _ _⟩
        simp [Builtin.append_, run_underlying hs, run_underlying hn, sizeOf, typeInfo, hi, asInt, asIntOf, hw0, hnc, storeCells]
      · have hst := run_storeCells_at Tryd.prog g n 5 (bv (List.replicate k 0)) 0 cur w hg (by rw [bv_length, List.length_replicate]; omega) (bv_one _)
        simp only [Nat.add_zero] at hst
        have hneg : ¬ ((k : Int) < 0) := by omega
        have h48 : ¬ (281474976710656 < (k : Int)) := by omega
        have hzz := zeros_bv k
        refine ⟨_, w.setRow g (cur.toList.take n ++ bv (List.replicate k 0) ++ cur.toList.drop (n + k)).toArray, ?_, ⟨by rw [bv_length, hll, Nat.mul_one], .inr ⟨g, cap, _, rfl, hbg, setRow_heap w g cur _ 5 _ hg, hroom, hcm, ?_, ?_⟩⟩, ?_⟩
        · simp only [bv_length, List.length_replicate] at hst
          simp [Builtin.append_, run_underlying hs, run_underlying hn, sizeOf, typeInfo, zeroValue, hi, hz0, hz1, hz2, asInt, asIntOf, hw, hneg, h48, hk, hroom, hzz, Addr.add_lit, hst]
        · rw [List.size_toArray, List.length_append, List.length_append, List.length_take, List.length_drop, Array.length_toList, bv_length, List.length_replicate]; omega
        · rw [htake, bv_append, Nat.mul_one]
          exact List.take_left' (by rw [List.length_append, bv_length, bv_length, List.length_replicate, hlen])
        · exact below_setRow (Below.refl _ _) hbg _
    · have hk : 0 < k := by omega
      have hold := run_firstCells_some (P := Tryd.prog) w.drew i0.size n ⟨g, 0, none⟩ n cap (bv l) (by rw [bv_length, hz1, hlen, Nat.mul_one]) (hown.cells (g := g) rfl)
      have hr := Lib.run_append_grow_zeros (P := Tryd.prog) w 22 3 ty 5 i0 (.int .u8 0) .i64 .i64 hs hn hi hz0 (some ⟨g, 0, none⟩) n cap (bv l) hold k hk (by rw [hz1]; decide) (by omega) (by omega) (by rw [hz2]; omega) (by rw [hz2]; exact growslice_fits (by omega) (by omega))
      rw [zeros_bv k, show (bv l).toArray ++ (bv (List.replicate k 0)).toArray = (bv (l ++ List.replicate k 0)).toArray from by rw [bv_append]; simp] at hr
      refine ⟨_, _, hr, ?_, hlow _⟩
      have hc := hcap cap
      exact owns_fresh w.drew base _ (n + k) _ _ hll (by rw [size_zeroCells]; simp [Value.cells]; omega) hc.2 hbase
set_option maxRecDepth 100000 in
theorem wpList_app_zeros {ops : Array Oper} {rest : List Oper} {o : Oper} {a : Act} {w : World} {Q : Exit → Act → World → Prop} (hgd : o.guard = none) (s x : Operand)
    (ho : o.op = .call { callee := .builtin .append, args := #[s, x], argTypes := #[22, 3] })
    (base n k : Nat) (v : Value) (l : List Int) (hs : a.eval s = v) (hx : a.eval x = .int .i64 k) (hown : w.ownsRow base 5 1 v n (bv l)) (hbd : n + k ≤ 1099511627776) (hbase : base ≤ w.heap.size)
    (h : ∀ v' w', w'.ownsRow base 5 1 v' (n + k) (bv (l ++ List.replicate k 0)) → Below base w w' → wpList Tryd.prog ops Q rest (a.put o.dst v') w') : wpList Tryd.prog ops Q (o :: rest) a w := by
  obtain ⟨v', w', hr, h1, h2⟩ := app_zeros w o.type base n k v l hown hbd hbase
  exact Lib.wpList_append_run w hgd s x 22 3 ho v (.int .i64 k) hs hx v' w' hr (h v' w' h1 h2)
end Go.Proofs.YtbednfacipphhaaDoor
namespace Go.Proofs.YtbednfacipphhaaDoor
open Go.RowKit
set_option linter.unusedVariables false

set_option maxRecDepth 100000 in
theorem owns_none {w : World} {base g n cap : Nat} {xs : List Value} (h : w.ownsRow base 5 1 (.slice (some ⟨g, 0, none⟩) n cap) n xs) : w.ownsRow base 5 1 (.slice (some ⟨g, 0, none⟩) 0 cap) 0 (bv []) := by
  refine ⟨rfl, ?_⟩
  rcases h.2 with ⟨h2, _⟩ | ⟨g', cap', cur, hv, hg, hh, hn, hm, hs, _⟩
  · cases h2
  · cases hv
    exact .inr ⟨g, cap, cur, rfl, hg, hh, Nat.zero_le _, hm, hs, by simp [bv]⟩

set_option maxRecDepth 100000 in
theorem owns_cap {w : World} {base g n cap size : Nat} {e : TypeId} {xs : List Value} (h : w.ownsRow base e size (.slice (some ⟨g, 0, none⟩) n cap) n xs) : n ≤ cap ∧ cap ≤ maxLen := by
  rcases h.2 with ⟨h2, _⟩ | ⟨g', cap', cur, hv, hg, hh, hn, hm, hs, _⟩
  · cases h2
  · cases hv; exact ⟨hn, hm⟩

set_option maxRecDepth 100000 in
set_option maxHeartbeats 400000 in
theorem grow_any (k : Nat) (w : World) (hk : k ≤ 1099511627776) :
    Calls Tryd.prog 75 #[.slice none 0 0, .int .i64 k] w fun e w' => ∃ v, e = .returned v ∧ w'.ownsRow w.heap.size 5 1 v 0 (bv []) ∧ Below w.heap.size w w' := by
  by_cases h0 : k = 0
  · subst h0
    go_enter Tryd.func75, Tryd.ntmps75
    go_wp2
    go_ret
    exact ⟨_, rfl, World.ownsRow_nil _ _ _ _, Below.refl _ _⟩
  · have h1 : (0 : Int) < (k : Int) := by omega
    have hn := World.ownsRow_nil w w.heap.size 5 1
    go_enter Tryd.func75, Tryd.ntmps75
    go_wp2_with (at_builtin; refine wpList_app_zeros rfl (.tmp 20) (.tmp 21) rfl w.heap.size 0 k _ [] rfl rfl hn (by omega) (Nat.le_refl _) ?_; intro v1 w1 ho hb; obtain ⟨g, cap, rfl, hg, hlt⟩ := owns_form ho (by omega); have hcap := (owns_cap ho).2; unfold maxLen at hcap; have ho2 := owns_none ho; clear ho)
    go_ret
    exact ⟨_, rfl, ho2, hb⟩
/-- the first i parts together -/
def catL (L : Nat → List Int) : Nat → List Int
  | 0 => []
  | i + 1 => catL L i ++ L i
set_option maxRecDepth 100000 in
theorem catL_le (L : Nat → List Int) (i k : Nat) (h : i ≤ k) : (catL L i).length ≤ (catL L k).length := by
  induction k with
  | zero => have : i = 0 := by omega
            rw [this]; exact Nat.le_refl _
  | succ k ih =>
    by_cases hi : i = k + 1
    · rw [hi]; exact Nat.le_refl _
    · have := ih (by omega)
      show _ ≤ (catL L k ++ L k).length
      rw [List.length_append]; omega

set_option maxRecDepth 100000 in
set_option maxHeartbeats 1000000 in
theorem concat_any (k b : Nat) (a : Nat → Option Addr) (n c : Nat → Nat) (L : Nat → List Int) (w : World) (hcell : ∀ i, i < k → w.cell? ⟨b, i, none⟩ = some (.slice (a i) (n i) (c i))) (hblt : b < w.heap.size)
    (hB : ∀ i, i < k → Bts w (a i) (n i) (c i) (L i)) (hbd : (catL L k).length ≤ 1099511627776) (hk : k ≤ 1000) :
    Calls Tryd.prog 49 #[.slice (some ⟨b, 0, none⟩) k k] w fun e w' => ∃ v, e = .returned v ∧ w'.ownsRow w.heap.size 5 1 v (catL L k).length (bv (catL L k)) ∧ Below w.heap.size w w' := by
  go_enter Tryd.func49, Tryd.ntmps49
  go_wp2
  go_loop [3, 11] (fun s i => ∃ j m : Nat, j ≤ k ∧ m = (catL L j).length ∧ s = .int .i64 m ∧ i = .int .i64 j) (fun _ i => k - (intOf i).toNat)
  case atStart => exact ⟨0, 0, Nat.zero_le _, rfl, rfl, rfl⟩
  case round =>
    obtain ⟨j, m, hj, hm, rfl, rfl⟩ := hrel
    have hmle : m ≤ 1099511627776 := by rw [hm]; exact Nat.le_trans (catL_le L j k hj) hbd
    by_cases hlt : j < k
    · have hc := hcell j hlt
      have hx : j + 1 ≤ k := hlt
      have HM : Hid (m + n j = (catL L (j + 1)).length) := by
        show _ = (catL L j ++ L j).length
        rw [List.length_append, hm, (hB j hlt).len_eq]
      have hmn : m + n j ≤ 1099511627776 := by rw [HM.out]; exact Nat.le_trans (catL_le L _ k hx) hbd
      generalize a j = aj at hc
      generalize n j = nj at hc HM hmn
      generalize c j = cj at hc
      have j0 : (j : Int) < (k : Int) := by omega
      have HH : Hid (m = (catL L j).length) := hm
      clear hm hB hcell
      go_wp2
      go_round
      case rel => exact ⟨j + 1, m + nj, by omega, HM.out, by go_num, by go_num⟩
      case measure => simp [intOf]; omega
    · obtain rfl : j = k := by omega
      have HM : Hid (m = (catL L j).length) := hm
      clear hm
      go_wp2_with fail
      refine (grow_any m _ hmle).mono ?_
      rintro e w1 ⟨v, rfl, hown, hb1⟩
      go_wp2
      go_loopw [6, 27] (fun s i wr => ∃ q : Nat, q ≤ j ∧ i = .int .i64 q ∧ wr.ownsRow w.heap.size 5 1 s (catL L q).length (bv (catL L q)) ∧ Below w.heap.size w wr) (fun _ i _ => j - (intOf i).toNat)
      case atStart => exact ⟨0, Nat.zero_le _, rfl, hown, hb1⟩
      case round =>
        clear hown hb1
        obtain ⟨q, hq, rfl, hown, hb1⟩ := hrel
        by_cases hlt2 : q < j
        · have hc := (hb1.cell (p := ⟨b, q, none⟩) hblt).trans (hcell q hlt2)
          have hbt := (hB q hlt2).below hb1
          have hql : (catL L q).length + n q ≤ 1099511627776 := by
            have := catL_le L (q + 1) j hlt2
            have e : (catL L (q + 1)).length = (catL L q).length + (L q).length := by show (catL L q ++ L q).length = _; rw [List.length_append]
            rw [e, (hB q hlt2).len_eq] at this
            omega
          have HM : Hid ((catL L q).length + n q = (catL L (q + 1)).length) := by
            show _ = (catL L q ++ L q).length
            rw [List.length_append, (hB q hlt2).len_eq]
          have HC : Bx (catL L q ++ L q = catL L (q + 1)) := ⟨rfl⟩
          have hsz := hb1.size
          generalize a q = aj at hc hbt
          generalize n q = nj at hc hbt hql HM
          generalize c q = cj at hc hbt
          generalize (catL L q).length = ln at hown hql HM
          have j0 : (q : Int) < (j : Int) := by omega
          clear hcell hB
          go_wp2_with (at_builtin; refine wpList_append_bts rfl (.tmp 31) (.tmp 32) rfl w.heap.size ln _ (catL L q) rfl hown aj nj cj (L q) rfl hbt (by omega) hsz ?_; intro v' w' ho' hb' hg'; have hb2 := hb1.trans hb'; rw [HM.out, HC.out] at ho'; clear hb' hg' hown hbt hc)
          go_roundw
          case rel => exact ⟨q + 1, by omega, by go_num, ho', hb2⟩
          case measure => simp [intOf]; omega
        · obtain rfl : q = j := by omega
          go_wp2
          go_ret
          exact ⟨_, rfl, hown, hb1⟩
end Go.Proofs.YtbednfacipphhaaDoor
namespace Go.Proofs.YtbednfacipphhaaDoor
open Go.RowKit
set_option linter.unusedVariables false

set_option maxRecDepth 100000 in
theorem concat2 (b : Nat) (a0 a1 : Option Addr) (n0 n1 c0 c1 : Nat) (l0 l1 : List Int) (w : World) (h0 : w.cell? ⟨b, 0, none⟩ = some (.slice a0 n0 c0)) (h1 : w.cell? ⟨b, 1, none⟩ = some (.slice a1 n1 c1)) (hblt : b < w.heap.size)
    (B0 : Bts w a0 n0 c0 l0) (B1 : Bts w a1 n1 c1 l1) (hbd : n0 + n1 ≤ 1099511627776) :
    Calls Tryd.prog 49 #[.slice (some ⟨b, 0, none⟩) 2 2] w fun e w' => ∃ a c, e = .returned (.slice a (n0 + n1) c) ∧ Bts w' a (n0 + n1) c (l0 ++ l1) ∧ Below w.heap.size w w' := by
  have hc : catL (fun i => if i = 0 then l0 else l1) 2 = l0 ++ l1 := by simp [catL]
  have hl : (catL (fun i => if i = 0 then l0 else l1) 2).length = n0 + n1 := by rw [hc, List.length_append, B0.len_eq, B1.len_eq]
  refine (concat_any 2 b (fun i => if i = 0 then a0 else a1) (fun i => if i = 0 then n0 else n1) (fun i => if i = 0 then c0 else c1) (fun i => if i = 0 then l0 else l1) w (fun i hi => ?_) hblt (fun i hi => ?_) (by rw [hl]; exact hbd) (by decide)).mono ?_
  · match i, hi with
    | 0, _ => exact h0
    | 1, _ => exact h1
  · match i, hi with
    | 0, _ => exact B0
    | 1, _ => exact B1
  · rintro e w' ⟨v, rfl, ho, hb⟩
    rw [hl, hc] at ho
    obtain ⟨ao, cap, rfl, hB⟩ := Bts.of_owns ho (B0.byt.append B1.byt)
    exact ⟨ao, cap, rfl, hB, hb⟩
set_option maxRecDepth 100000 in
theorem concat3 (b : Nat) (a0 a1 a2 : Option Addr) (n0 n1 n2 c0 c1 c2 : Nat) (l0 l1 l2 : List Int) (w : World) (h0 : w.cell? ⟨b, 0, none⟩ = some (.slice a0 n0 c0)) (h1 : w.cell? ⟨b, 1, none⟩ = some (.slice a1 n1 c1)) (h2 : w.cell? ⟨b, 2, none⟩ = some (.slice a2 n2 c2)) (hblt : b < w.heap.size)
    (B0 : Bts w a0 n0 c0 l0) (B1 : Bts w a1 n1 c1 l1) (B2 : Bts w a2 n2 c2 l2) (hbd : n0 + n1 + n2 ≤ 1099511627776) :
    Calls Tryd.prog 49 #[.slice (some ⟨b, 0, none⟩) 3 3] w fun e w' => ∃ a c, e = .returned (.slice a (n0 + n1 + n2) c) ∧ Bts w' a (n0 + n1 + n2) c (l0 ++ (l1 ++ l2)) ∧ Below w.heap.size w w' := by
  have hc : catL (fun i => if i = 0 then l0 else if i = 1 then l1 else l2) 3 = l0 ++ (l1 ++ l2) := by simp [catL]
  have hl : (catL (fun i => if i = 0 then l0 else if i = 1 then l1 else l2) 3).length = n0 + n1 + n2 := by rw [hc, List.length_append, List.length_append, B0.len_eq, B1.len_eq, B2.len_eq]; omega
  refine (concat_any 3 b (fun i => if i = 0 then a0 else if i = 1 then a1 else a2) (fun i => if i = 0 then n0 else if i = 1 then n1 else n2) (fun i => if i = 0 then c0 else if i = 1 then c1 else c2) (fun i => if i = 0 then l0 else if i = 1 then l1 else l2) w (fun i hi => ?_) hblt (fun i hi => ?_) (by rw [hl]; exact hbd) (by decide)).mono ?_
  · match i, hi with
    | 0, _ => exact h0
    | 1, _ => exact h1
    | 2, _ => exact h2
  · match i, hi with
    | 0, _ => exact B0
    | 1, _ => exact B1
    | 2, _ => exact B2
  · rintro e w' ⟨v, rfl, ho, hb⟩
    rw [hl, hc] at ho
    obtain ⟨ao, cap, rfl, hB⟩ := Bts.of_owns ho (B0.byt.append (B1.byt.append B2.byt))
    exact ⟨ao, cap, rfl, hB, hb⟩
set_option maxRecDepth 100000 in
/-- a list of one byte, new -/
theorem bts_one (w : World) (c : Int) (hc : 0 ≤ c ∧ c ≤ 255) : Bts (w.alloc (.cells #[.int .u8 c] 5)) (some ⟨w.heap.size, 0, none⟩) 1 1 [c] :=
  bts_cells (heap_alloc_new _ _) (Byt.cons hc Byt.nil) rfl (by unfold maxLen; omega)

set_option maxRecDepth 100000 in
set_option maxHeartbeats 1000000 in
theorem leaf_any (a : Option Addr) (len cap : Nat) (b : List Int) (x : Int) (w : World) (hb : Bts w a len cap b) (htab : Tab w) (hbd : len ≤ 1000000) :
    Calls Tryd.prog 33 #[.slice a len cap, .int .i64 x] w fun e w' => e = .returned (.agg (bv (leafL b x)).toArray) ∧ Below w.heap.size w w' := by
  go_enter Tryd.func33, Tryd.ntmps33
  go_wp2_with fail
  have hb0 : Below w.heap.size w (w.alloc (.cells #[.int .u8 0, .int .u8 0, .int .u8 0, .int .u8 0, .int .u8 0, .int .u8 0, .int .u8 0, .int .u8 0, .int .u8 0, .int .u8 0, .int .u8 0, .int .u8 0, .int .u8 0, .int .u8 0, .int .u8 0, .int .u8 0, .int .u8 0, .int .u8 0, .int .u8 0, .int .u8 0, .int .u8 0, .int .u8 0, .int .u8 0, .int .u8 0, .int .u8 0, .int .u8 0, .int .u8 0, .int .u8 0, .int .u8 0, .int .u8 0, .int .u8 0, .int .u8 0] 30)) := (Below.refl _ _).alloc (Nat.le_refl _) _
  obtain ⟨cs, hcs, hres0⟩ : ∃ cs : Array Value, cs.size = 32 ∧ (w.alloc (.cells #[.int .u8 0, .int .u8 0, .int .u8 0, .int .u8 0, .int .u8 0, .int .u8 0, .int .u8 0, .int .u8 0, .int .u8 0, .int .u8 0, .int .u8 0, .int .u8 0, .int .u8 0, .int .u8 0, .int .u8 0, .int .u8 0, .int .u8 0, .int .u8 0, .int .u8 0, .int .u8 0, .int .u8 0, .int .u8 0, .int .u8 0, .int .u8 0, .int .u8 0, .int .u8 0, .int .u8 0, .int .u8 0, .int .u8 0, .int .u8 0, .int .u8 0, .int .u8 0] 30)).heap[w.heap.size]? = some (.cells cs 30 (0, 0)) := ⟨#[.int .u8 0, .int .u8 0, .int .u8 0, .int .u8 0, .int .u8 0, .int .u8 0, .int .u8 0, .int .u8 0, .int .u8 0, .int .u8 0, .int .u8 0, .int .u8 0, .int .u8 0, .int .u8 0, .int .u8 0, .int .u8 0, .int .u8 0, .int .u8 0, .int .u8 0, .int .u8 0, .int .u8 0, .int .u8 0, .int .u8 0, .int .u8 0, .int .u8 0, .int .u8 0, .int .u8 0, .int .u8 0, .int .u8 0, .int .u8 0, .int .u8 0, .int .u8 0], rfl, heap_alloc_new _ _⟩
  have hs0 : (w.alloc (.cells #[.int .u8 0, .int .u8 0, .int .u8 0, .int .u8 0, .int .u8 0, .int .u8 0, .int .u8 0, .int .u8 0, .int .u8 0, .int .u8 0, .int .u8 0, .int .u8 0, .int .u8 0, .int .u8 0, .int .u8 0, .int .u8 0, .int .u8 0, .int .u8 0, .int .u8 0, .int .u8 0, .int .u8 0, .int .u8 0, .int .u8 0, .int .u8 0, .int .u8 0, .int .u8 0, .int .u8 0, .int .u8 0, .int .u8 0, .int .u8 0, .int .u8 0, .int .u8 0] 30)).heap.size = w.heap.size + 1 := by simp
  generalize w.alloc (.cells #[.int .u8 0, .int .u8 0, .int .u8 0, .int .u8 0, .int .u8 0, .int .u8 0, .int .u8 0, .int .u8 0, .int .u8 0, .int .u8 0, .int .u8 0, .int .u8 0, .int .u8 0, .int .u8 0, .int .u8 0, .int .u8 0, .int .u8 0, .int .u8 0, .int .u8 0, .int .u8 0, .int .u8 0, .int .u8 0, .int .u8 0, .int .u8 0, .int .u8 0, .int .u8 0, .int .u8 0, .int .u8 0, .int .u8 0, .int .u8 0, .int .u8 0, .int .u8 0] 30) = w0 at hb0 hres0 hs0 ⊢
  have hone := bts_one w0 0 (by decide)
  have hb1 : Below w0.heap.size w0 (w0.alloc (.cells #[.int .u8 0] 5)) := (Below.refl _ _).alloc (Nat.le_refl _) _
  have hs1 : (w0.alloc (.cells #[.int .u8 0] 5)).heap.size = w0.heap.size + 1 := by simp
  generalize w0.alloc (.cells #[.int .u8 0] 5) = w1 at hone hb1 hs1 ⊢
  rw [hs0] at hone
  have hrow2 : (w1.alloc (.cells #[.slice (some ⟨w.heap.size + 1, 0, none⟩) 1 1, .slice a len cap] 22)).heap[w.heap.size + 1 + 1]? = some (.cells #[.slice (some ⟨w.heap.size + 1, 0, none⟩) 1 1, .slice a len cap] 22 (0, 0)) := by
    rw [show w.heap.size + 1 + 1 = w1.heap.size from by omega]; exact heap_alloc_new _ _
  have hb2 : Below w1.heap.size w1 (w1.alloc (.cells #[.slice (some ⟨w.heap.size + 1, 0, none⟩) 1 1, .slice a len cap] 22)) := (Below.refl _ _).alloc (Nat.le_refl _) _
  generalize w1.alloc (.cells #[.slice (some ⟨w.heap.size + 1, 0, none⟩) 1 1, .slice a len cap] 22) = w2 at hrow2 hb2 ⊢
  have hlow2 := bstep hb0 (bstep hb1 hb2)
  have hB1 := hb.below hlow2
  have hB0 := hone.below hb2
  have hT2 := htab.below hlow2
  have hres2 := ((bstep hb1 hb2).block w.heap.size (by omega)).trans hres0
  refine (concat2 (w.heap.size + 1 + 1) _ _ 1 len 1 cap [0] b _ (cell_of_row _ _ 0 _ _ (0, 0) hrow2) (cell_of_row _ _ 1 _ _ (0, 0) hrow2) (Array.getElem?_eq_some_iff.1 hrow2).1 hB0 hB1 (by omega)).mono ?_
  rintro e w3 ⟨a3, c3, rfl, hB3, hb3⟩
  have hlow3 := bstep hlow2 hb3
  have hT3 := hT2.below hb3
  have hres3 := (hb3.block w.heap.size (Array.getElem?_eq_some_iff.1 hres2).1).trans hres2
  clear hB1 hB0 hT2 hres2 hlow2 hrow2 hb2 hone hb1 hs1 hs0 hres0 hb0 hb3
  go_wp2_with fail
  refine (sum_any a3 (1 + len) c3 ([0] ++ b) _ hB3 hT3 (by omega)).mono ?_
  rintro e w4 ⟨rfl, hb4⟩
  have hlow4 := bstep hlow3 hb4
  have hres4 := (hb4.block w.heap.size (Array.getElem?_eq_some_iff.1 hres3).1).trans hres3
  have HE : Bx (leafL b x = cutL (sumL ([0] ++ b)) x) := ⟨rfl⟩
  have hdg : Dg (sumL ([0] ++ b)) := ⟨sumL_length _, sum_byt _⟩
  generalize sumL ([0] ++ b) = d at HE hdg ⊢
  clear hlow3 hB3 hT3 hres3 hb4
  go_wp2_with fail
  refine (mcut_any d x _ hdg).mono ?_
  rintro e w5 ⟨rfl, hb5⟩
  have hlow5 := bstep hlow4 hb5
  have hres5 := (hb5.block w.heap.size (Array.getElem?_eq_some_iff.1 hres4).1).trans hres4
  have hZ := cutL_dg hdg.2 x
  clear hlow4 hres4 hb5
  have hth := there_row hres5
  rw [hcs] at hth
  have HZ2 : Bx ((bv (cutL d x)).toArray.size = 32) := ⟨by rw [List.size_toArray, bv_length, hZ.1]⟩
  have HO2 : Bx ((bv (cutL d x)).toArray.all (·.oneCell') = true) := ⟨all_oneCell_toArray (bv_one _)⟩
  generalize hD : (bv (cutL d x)).toArray = D at HZ2 HO2 ⊢
  have HD : Bx (Ending.returned (.agg D) = .returned (.agg (bv (leafL b x)).toArray)) := ⟨by rw [HE.out, hD]⟩
  clear hD
  have HI2 : Bx ((Tryd.prog.info? 30).map (·.size) = some D.size) := ⟨by rw [HZ2.out]; exact dig_info⟩
  have HST : Bx ((w5.setCells w.heap.size 0 D.toList).heap[w.heap.size]? = some (.cells D 30 (0, 0))) := ⟨heap_stored (vs := D) hres5 (by rw [hcs, HZ2.out])⟩
  have HBS : Bx (Below w.heap.size w (w5.setCells w.heap.size 0 D.toList)) := ⟨below_setCells hlow5 w.heap.size (Nat.le_refl _) D.toList 0⟩
  have HTH : Bx (w5.there w.heap.size 0 D.size) := ⟨by rw [HZ2.out]; exact hth⟩
  clear hres5 hth hlow5 hcs
  go_wp2_with (refine wpList_store_mid rfl 30 (.tmp 4) (.tmp 11) rfl w.heap.size 0 D rfl rfl HTH.out HI2.out HO2.out ?_)
  exact bodyPost_ret (v := .agg D) (results_cell_row rfl _ _ w.heap.size 30 D (0, 0) _ rfl HST.out Tryd.underlying30 rfl HI2.out) rfl ⟨HD.out, HBS.out⟩
/-- what stays while Node goes on: the two sums, the answer's place -/
structure ND (N : Nat) (y z : List Int) (w wr : World) : Prop where
  low : Below N w wr
  fst : wr.heap[N]? = some (.cells (bv y).toArray 30 (0, 0))
  snd : wr.heap[N + 1]? = some (.cells (bv z).toArray 30 (0, 0))
  res : ∃ cs : Array Value, cs.size = 32 ∧ wr.heap[N + 1 + 1]? = some (.cells cs 30 (0, 0))
  tab : Tab wr
set_option maxRecDepth 100000 in
theorem ND.lt {N : Nat} {y z : List Int} {w wr : World} (h : ND N y z w wr) : N + 1 + 1 < wr.heap.size := by
  obtain ⟨cs, _, e⟩ := h.res; exact (Array.getElem?_eq_some_iff.1 e).1
set_option maxRecDepth 100000 in
theorem ND.drewN {N : Nat} {y z : List Int} {w wr : World} (h : ND N y z w wr) (q : Nat) : ND N y z w (wr.drewN q) := ⟨below_drewN h.low q, h.fst, h.snd, h.res, h.tab.drewN q⟩
set_option maxRecDepth 100000 in
theorem ND.step {N : Nat} {y z : List Int} {w wr w1 : World} (h : ND N y z w wr) (hb : Below wr.heap.size wr w1) : ND N y z w w1 := by
  have hl := h.lt
  obtain ⟨cs, e1, e2⟩ := h.res
  exact ⟨h.low.trans (hb.mono (by omega)), (hb.block _ (by omega)).trans h.fst, (hb.block _ (by omega)).trans h.snd, ⟨cs, e1, (hb.block _ hl).trans e2⟩, h.tab.below hb⟩
set_option maxRecDepth 100000 in
theorem ND.store {N : Nat} {y z : List Int} {w wr : World} {D : List Value} (h : ND N y z w wr) (hN : 0 < N) (hD : D.length = 32) : ND N y z w (wr.setCells (N + 1 + 1) 0 D) ∧ (wr.setCells (N + 1 + 1) 0 D).heap[N + 1 + 1]? = some (.cells D.toArray 30 (0, 0)) := by
  have hl := h.lt
  obtain ⟨cs, e1, e2⟩ := h.res
  have hst : (wr.setCells (N + 1 + 1) 0 D).heap[N + 1 + 1]? = some (.cells D.toArray 30 (0, 0)) := heap_stored (vs := D.toArray) e2 (by rw [e1, List.size_toArray, hD])
  have hbut : But (N + 1 + 1) wr (wr.setCells (N + 1 + 1) 0 D) := (But.refl _ _).setCells _ _
  refine ⟨⟨below_setCells h.low _ (by omega) _ _, ?_, ?_, ⟨D.toArray, by rw [List.size_toArray, hD], hst⟩, h.tab.but hbut (by omega)⟩, hst⟩
  · rw [hbut.block _ (by omega) (by omega)]; exact h.fst
  · rw [hbut.block _ (by omega) (by omega)]; exact h.snd
set_option maxRecDepth 100000 in
theorem ND.held {N : Nat} {y z : List Int} {w wr : World} (h : ND N y z w wr) : wr.there (N + 1 + 1) 0 32 ∧ ND N y z w wr := by
  obtain ⟨cs, e1, e2⟩ := h.res
  have := there_row e2
  rw [e1] at this
  exact ⟨this, h⟩
set_option maxRecDepth 100000 in
theorem nd_step {N : Nat} {y z : List Int} {w wr w1 : World} {p : Prop} (h : p ∧ ND N y z w wr) (hb : Below wr.heap.size wr w1) : w1.there (N + 1 + 1) 0 32 ∧ ND N y z w w1 := (h.2.step hb).held
set_option maxRecDepth 100000 in
theorem nd_new {N : Nat} {y z : List Int} {w wr : World} {p : Prop} (h : p ∧ ND N y z w wr) (o : Obj) : (wr.alloc o).there (N + 1 + 1) 0 32 ∧ ND N y z w (wr.alloc o) := (h.2.step ((Below.refl _ _).alloc (Nat.le_refl _) _)).held
set_option maxRecDepth 100000 in
theorem nd_store {N : Nat} {y z : List Int} {w wr : World} {p : Prop} {D : List Value} (h : p ∧ ND N y z w wr) (hN : 0 < N) (hD : D.length = 32) : (wr.setCells (N + 1 + 1) 0 D).there (N + 1 + 1) 0 32 ∧ ND N y z w (wr.setCells (N + 1 + 1) 0 D) := (h.2.store hN hD).1.held
set_option maxRecDepth 100000 in
theorem nd_tab {N : Nat} {y z : List Int} {w wr : World} {p : Prop} (h : p ∧ ND N y z w wr) : Tab wr := h.2.tab
set_option maxRecDepth 100000 in
/-- a byte's row and the list of the three parts, new -/
theorem three_new {N M : Nat} {y z : List Int} {w wr : World} (h : ND N y z w wr) (hy : Dg y) (hz : Dg z) (hM : M = wr.heap.size) :
    Calls Tryd.prog 49 #[.slice (some ⟨M + 1, 0, none⟩) 3 3] ((wr.alloc (.cells #[.int .u8 1] 5)).alloc (.cells #[.slice (some ⟨M, 0, none⟩) 1 1, .slice (some ⟨N, 0, none⟩) 32 32, .slice (some ⟨N + 1, 0, none⟩) 32 32] 22))
      fun e w' => ∃ a c, e = .returned (.slice a 65 c) ∧ Bts w' a 65 c ([1] ++ (y ++ z)) ∧ Below ((wr.alloc (.cells #[.int .u8 1] 5)).alloc (.cells #[.slice (some ⟨M, 0, none⟩) 1 1, .slice (some ⟨N, 0, none⟩) 32 32, .slice (some ⟨N + 1, 0, none⟩) 32 32] 22)).heap.size ((wr.alloc (.cells #[.int .u8 1] 5)).alloc (.cells #[.slice (some ⟨M, 0, none⟩) 1 1, .slice (some ⟨N, 0, none⟩) 32 32, .slice (some ⟨N + 1, 0, none⟩) 32 32] 22)) w' := by
  have hone := bts_one wr 1 (by decide)
  have hb1 : Below wr.heap.size wr (wr.alloc (.cells #[.int .u8 1] 5)) := (Below.refl _ _).alloc (Nat.le_refl _) _
  have hs1 : (wr.alloc (.cells #[.int .u8 1] 5)).heap.size = wr.heap.size + 1 := by simp
  rw [← hM] at hone
  generalize wr.alloc (.cells #[.int .u8 1] 5) = w1 at hone hb1 hs1 ⊢
  have hb2 : Below w1.heap.size w1 (w1.alloc (.cells #[.slice (some ⟨M, 0, none⟩) 1 1, .slice (some ⟨N, 0, none⟩) 32 32, .slice (some ⟨N + 1, 0, none⟩) 32 32] 22)) := (Below.refl _ _).alloc (Nat.le_refl _) _
  have hrow2 : (w1.alloc (.cells #[.slice (some ⟨M, 0, none⟩) 1 1, .slice (some ⟨N, 0, none⟩) 32 32, .slice (some ⟨N + 1, 0, none⟩) 32 32] 22)).heap[M + 1]? = some (.cells #[.slice (some ⟨M, 0, none⟩) 1 1, .slice (some ⟨N, 0, none⟩) 32 32, .slice (some ⟨N + 1, 0, none⟩) 32 32] 22 (0, 0)) := by
    rw [show M + 1 = w1.heap.size from by omega]; exact heap_alloc_new _ _
  generalize w1.alloc (.cells #[.slice (some ⟨M, 0, none⟩) 1 1, .slice (some ⟨N, 0, none⟩) 32 32, .slice (some ⟨N + 1, 0, none⟩) 32 32] 22) = w2 at hrow2 hb2 ⊢
  have hnd := (h.step hb1).step hb2
  exact concat3 (M + 1) _ _ _ 1 32 32 1 32 32 [1] y z w2 (cell_of_row _ _ 0 _ _ (0, 0) hrow2) (cell_of_row _ _ 1 _ _ (0, 0) hrow2) (cell_of_row _ _ 2 _ _ (0, 0) hrow2) (Array.getElem?_eq_some_iff.1 hrow2).1 (hone.below hb2) (bts_cells hnd.fst hy.2 hy.1 (by unfold maxLen; omega)) (bts_cells hnd.snd hz.2 hz.1 (by unfold maxLen; omega)) (by decide)

set_option maxRecDepth 100000 in
set_option maxHeartbeats 1000000 in
theorem node_any (y z : List Int) (x : Int) (w : World) (hy : Dg y) (hz : Dg z) (htab : Tab w) :
    Calls Tryd.prog 86 #[.agg (bv y).toArray, .agg (bv z).toArray, .int .i64 x] w fun e w' => e = .returned (.agg (bv (nodeL y z x)).toArray) ∧ Below w.heap.size w w' := by
  have hpos := htab.pos
  go_enter Tryd.func86, Tryd.ntmps86
  go_wp2_with fail
  have hnd : ND w.heap.size y z w (((w.alloc (.cells (bv y).toArray 30)).alloc (.cells (bv z).toArray 30)).alloc (.cells #[.int .u8 0, .int .u8 0, .int .u8 0, .int .u8 0, .int .u8 0, .int .u8 0, .int .u8 0, .int .u8 0, .int .u8 0, .int .u8 0, .int .u8 0, .int .u8 0, .int .u8 0, .int .u8 0, .int .u8 0, .int .u8 0, .int .u8 0, .int .u8 0, .int .u8 0, .int .u8 0, .int .u8 0, .int .u8 0, .int .u8 0, .int .u8 0, .int .u8 0, .int .u8 0, .int .u8 0, .int .u8 0, .int .u8 0, .int .u8 0, .int .u8 0, .int .u8 0] 30)) := by
    have hb1 : Below w.heap.size w (((w.alloc (.cells (bv y).toArray 30)).alloc (.cells (bv z).toArray 30)).alloc (.cells #[.int .u8 0, .int .u8 0, .int .u8 0, .int .u8 0, .int .u8 0, .int .u8 0, .int .u8 0, .int .u8 0, .int .u8 0, .int .u8 0, .int .u8 0, .int .u8 0, .int .u8 0, .int .u8 0, .int .u8 0, .int .u8 0, .int .u8 0, .int .u8 0, .int .u8 0, .int .u8 0, .int .u8 0, .int .u8 0, .int .u8 0, .int .u8 0, .int .u8 0, .int .u8 0, .int .u8 0, .int .u8 0, .int .u8 0, .int .u8 0, .int .u8 0, .int .u8 0] 30)) := (((Below.refl _ _).alloc (Nat.le_refl _) _).alloc (by simp) _).alloc (by simp; omega) _
    refine ⟨hb1, ?_, ?_, ⟨#[.int .u8 0, .int .u8 0, .int .u8 0, .int .u8 0, .int .u8 0, .int .u8 0, .int .u8 0, .int .u8 0, .int .u8 0, .int .u8 0, .int .u8 0, .int .u8 0, .int .u8 0, .int .u8 0, .int .u8 0, .int .u8 0, .int .u8 0, .int .u8 0, .int .u8 0, .int .u8 0, .int .u8 0, .int .u8 0, .int .u8 0, .int .u8 0, .int .u8 0, .int .u8 0, .int .u8 0, .int .u8 0, .int .u8 0, .int .u8 0, .int .u8 0, .int .u8 0], rfl, ?_⟩, htab.below hb1⟩
    · rw [heap_alloc_old _ _ (by simp; omega), heap_alloc_old _ _ (by simp), heap_alloc_new]
    · rw [heap_alloc_old _ _ (by simp), show w.heap.size + 1 = (w.alloc (.cells (bv y).toArray 30)).heap.size from by simp, heap_alloc_new]
    · rw [show w.heap.size + 1 + 1 = ((w.alloc (.cells (bv y).toArray 30)).alloc (.cells (bv z).toArray 30)).heap.size from by simp, heap_alloc_new]
  have hsz : (((w.alloc (.cells (bv y).toArray 30)).alloc (.cells (bv z).toArray 30)).alloc (.cells #[.int .u8 0, .int .u8 0, .int .u8 0, .int .u8 0, .int .u8 0, .int .u8 0, .int .u8 0, .int .u8 0, .int .u8 0, .int .u8 0, .int .u8 0, .int .u8 0, .int .u8 0, .int .u8 0, .int .u8 0, .int .u8 0, .int .u8 0, .int .u8 0, .int .u8 0, .int .u8 0, .int .u8 0, .int .u8 0, .int .u8 0, .int .u8 0, .int .u8 0, .int .u8 0, .int .u8 0, .int .u8 0, .int .u8 0, .int .u8 0, .int .u8 0, .int .u8 0] 30)).heap.size = w.heap.size + 1 + 1 + 1 := by simp
  generalize ((w.alloc (.cells (bv y).toArray 30)).alloc (.cells (bv z).toArray 30)).alloc (.cells #[.int .u8 0, .int .u8 0, .int .u8 0, .int .u8 0, .int .u8 0, .int .u8 0, .int .u8 0, .int .u8 0, .int .u8 0, .int .u8 0, .int .u8 0, .int .u8 0, .int .u8 0, .int .u8 0, .int .u8 0, .int .u8 0, .int .u8 0, .int .u8 0, .int .u8 0, .int .u8 0, .int .u8 0, .int .u8 0, .int .u8 0, .int .u8 0, .int .u8 0, .int .u8 0, .int .u8 0, .int .u8 0, .int .u8 0, .int .u8 0, .int .u8 0, .int .u8 0] 30) = w0 at hnd hsz ⊢
  obtain ⟨N, hN⟩ : ∃ N, N = w.heap.size := ⟨_, rfl⟩
  rw [← hN] at hnd ⊢
  have HN : Hid (N = w.heap.size) := hN
  have hNp : 0 < N := by omega
  clear hN hsz
  have hda0 := dig_all N
  have hda1 := dig_all (N + 1)
  have hdg : Dg (sumL ([1] ++ (y ++ z))) := ⟨sumL_length _, sum_byt _⟩
  have HSUM : Bx (∀ (a : Option Addr) (c : Nat) (W : World), Bts W a 65 c ([1] ++ (y ++ z)) → Tab W → Calls Tryd.prog 60 #[.slice a 65 c] W fun e w' => e = .returned (.agg (bv (sumL ([1] ++ (y ++ z)))).toArray) ∧ Below W.heap.size W w') := ⟨fun a c W h1 h2 => sum_any a 65 c _ W h1 h2 (by decide)⟩
  have HE : Bx (nodeL y z x = cutL (sumL ([1] ++ (y ++ z))) x) := ⟨rfl⟩
  have HTN : Bx (∀ (M : Nat) (wr : World), M = wr.heap.size → ND N y z w wr → Calls Tryd.prog 49 #[.slice (some ⟨M + 1, 0, none⟩) 3 3] ((wr.alloc (.cells #[.int .u8 1] 5)).alloc (.cells #[.slice (some ⟨M, 0, none⟩) 1 1, .slice (some ⟨N, 0, none⟩) 32 32, .slice (some ⟨N + 1, 0, none⟩) 32 32] 22))
      fun e w' => ∃ a c, e = .returned (.slice a 65 c) ∧ Bts w' a 65 c ([1] ++ (y ++ z)) ∧ Below ((wr.alloc (.cells #[.int .u8 1] 5)).alloc (.cells #[.slice (some ⟨M, 0, none⟩) 1 1, .slice (some ⟨N, 0, none⟩) 32 32, .slice (some ⟨N + 1, 0, none⟩) 32 32] 22)).heap.size ((wr.alloc (.cells #[.int .u8 1] 5)).alloc (.cells #[.slice (some ⟨M, 0, none⟩) 1 1, .slice (some ⟨N, 0, none⟩) 32 32, .slice (some ⟨N + 1, 0, none⟩) 32 32] 22)) w') := ⟨fun M wr hM h => three_new h hy hz hM⟩
  generalize sumL ([1] ++ (y ++ z)) = d at HSUM HE hdg
  generalize [1] ++ (y ++ z) = ll at HSUM HTN
  obtain ⟨Z, hZ⟩ : ∃ Z, Z = cutL d x := ⟨_, rfl⟩
  have HC : Bx (∀ W, Calls Tryd.prog 59 #[.agg (bv d).toArray, .int .i64 x] W fun e w' => e = .returned (.agg (bv Z).toArray) ∧ Below W.heap.size W w') := ⟨fun W => by rw [hZ]; exact mcut_any d x W hdg⟩
  have hZd : Dg Z := by rw [hZ]; exact cutL_dg hdg.2 x
  have HZE : Bx (Ending.returned (.agg (bv Z).toArray) = .returned (.agg (bv (nodeL y z x)).toArray)) := ⟨by rw [HE.out, hZ]⟩
  have hZl : (bv Z).length = 32 := by rw [bv_length, hZd.1]
  have hZi : (Tryd.prog.info? 30).map (·.size) = some (bv Z).length := by rw [hZl]; exact dig_info
  have hZo := bv_one Z
  have HZi : Bx ((Tryd.prog.info? 30).map (·.size) = some (bv Z).toArray.size) := ⟨by rw [List.size_toArray]; exact hZi⟩
  have HZl : Bx ((bv Z).length = 32) := ⟨hZl⟩
  clear hZ hdg HE hZd hy hz
  have h0 := (hnd.drewN 1).held
  have hnd1 := hnd.drewN 1
  go_region_held3 (fun W => W.there (N + 1 + 1) 0 32 ∧ ND N y z w W) (first | (exact h0) | (exact nd_new (by assumption) _) | (exact nd_step (by assumption) hb5) | (exact nd_step (by assumption) hb6) | (exact nd_step (by assumption) hb7) | (exact nd_store (by assumption) hNp HZl.out)) (first
    | (go_at_call 49; refine (HTN.out _ _ (by simp) hnd1).mono ?_; rintro e5 w5 ⟨a5, c5, rfl, hB5, hb5⟩)
    | (go_at_call 60; refine (HSUM.out a5 c5 _ hB5 (nd_tab (by assumption))).mono ?_; rintro e6 w6 ⟨rfl, hb6⟩)
    | (go_at_call 59; refine (HC.out _).mono ?_; rintro e7 w7 ⟨rfl, hb7⟩; have hms7 := And.right (nd_step (by assumption) hb7)))
  have HF := hms7.store hNp HZl.out
  have HST : Bx _ := ⟨HF.2⟩
  have HBS : Bx (Below w.heap.size w (w7.setCells (N + 1 + 1) 0 (bv Z))) := ⟨by rw [← HN.out]; exact HF.1.low⟩
  clear HF hms7
  go_wp2
  exact bodyPost_ret (v := .agg (bv Z).toArray) (results_cell_row rfl _ _ (N + 1 + 1) 30 (bv Z).toArray (0, 0) _ rfl HST.out Tryd.underlying30 rfl HZi.out) rfl ⟨HZE.out, HBS.out⟩
end Go.Proofs.YtbednfacipphhaaDoor
