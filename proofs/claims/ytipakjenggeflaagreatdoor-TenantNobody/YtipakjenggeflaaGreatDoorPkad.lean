/- Bytes of whatever make behind an own row: 'append(b, c...)'. Noughts behind an own row of bytes: 'append(b, make([]byte, n)...)'. What slices.Concat answers for bytes: all of the parts, in memory of its own. slices.Concat of two: new memory. -/
import Derived.Test.YtipakjenggeflaaGreatDoorPkaa
import Derived.Laws.CopyOwn
import Derived.Lib.AppendZerosOnto
namespace Go.Proofs.YtipakjenggeflaaGreatDoor
open Go.RowKit
set_option linter.unusedVariables false

set_option maxRecDepth 100000 in
/-- bytes of whatever make behind an own row -/
theorem wp_append_bts {o : Oper} {a : Act} {w : World} {K : Act → World → Prop} {Q : Exit → Act → World → Prop} (s x : Operand)
    (ho : o.op = .call { callee := .builtin .append, args := #[s, x], argTypes := #[34, 34] })
    (base n : Nat) (v : Value) (l : List Int) (hs : a.eval s = v) (hown : w.ownsRow base 5 1 v n (bv l))
    (ao : Option Addr) (m c : Nat) (l2 : List Int) (hx : a.eval x = .slice ao m c) (hb : Bts w ao m c l2) (h63 : n + m ≤ 140737488355328) (hbase : base ≤ w.heap.size)
    (h : ∀ v' w', w'.ownsRow base 5 1 v' (n + m) (bv (l ++ l2)) → Below base w w' → w.grownBy w' v.ownBlock → K (a.put o.dst v') w') : o.wp Tryz.prog a w K Q := by
  obtain ⟨i0, hi, hz0, hz1, hz2⟩ := info_parts Tryz.info5
  cases ao with
  | none =>
    have h0 := hb.nil rfl
    have h1 := hb.le_cap
    obtain rfl : c = 0 := h0
    obtain rfl : m = 0 := by omega
    obtain rfl : l2 = [] := List.eq_nil_of_length_eq_zero hb.len_eq
    have hrun := run_append_owned_none (P := Tryz.prog) (w := w) base 34 o.type 5 i0 1 Tryz.underlying34 hi v n (bv l) hown
    unfold Oper.wp
    simp [execOp, ho, resolve, invoke, builtin, hs, hx, hrun, Result.andThen]
    exact h _ _ (by rw [List.append_nil]; exact hown) (Below.refl _ _) ⟨rfl, rfl, rfl, Nat.le_refl _, fun _ _ _ => rfl⟩
  | some ad =>
    have hl := hb.len_eq
    refine wp_append_own w s x 34 ho base 5 i0 (.int .u8 0) 1 1 Tryz.underlying34 hi hz0 hz1 hz2 rfl (by decide) v n (bv l) hs hown ad m c (bv l2) hx (by rw [bv_length]; omega) hb.cells (bv_one l2) (by unfold maxLen; omega) (by omega) hbase ?_
    intro v' w' ho' hg _
    exact h v' w' (by rw [bv_append]; exact ho') ((Below.refl _ _).grown hg hbase (fun k hk => (hown.lt k hk).1)) hg
set_option maxRecDepth 100000 in
theorem wpList_append_bts {ops : Array Oper} {rest : List Oper} {o : Oper} {a : Act} {w : World} {Q : Exit → Act → World → Prop} (hgd : o.guard = none) (s x : Operand)
    (ho : o.op = .call { callee := .builtin .append, args := #[s, x], argTypes := #[34, 34] })
    (base n : Nat) (v : Value) (l : List Int) (hs : a.eval s = v) (hown : w.ownsRow base 5 1 v n (bv l))
    (ao : Option Addr) (m c : Nat) (l2 : List Int) (hx : a.eval x = .slice ao m c) (hb : Bts w ao m c l2) (h63 : n + m ≤ 140737488355328) (hbase : base ≤ w.heap.size)
    (h : ∀ v' w', w'.ownsRow base 5 1 v' (n + m) (bv (l ++ l2)) → Below base w w' → w.grownBy w' v.ownBlock → wpList Tryz.prog ops Q rest (a.put o.dst v') w') : wpList Tryz.prog ops Q (o :: rest) a w :=
  wpList_plain hgd fun K hK => wp_append_bts s x ho base n v l hs hown ao m c l2 hx hb h63 hbase (fun v' w' h1 h2 h3 => hK _ _ (h v' w' h1 h2 h3))
end Go.Proofs.YtipakjenggeflaaGreatDoor
namespace Go.Proofs.YtipakjenggeflaaGreatDoor
open Go.RowKit
set_option linter.unusedVariables false

set_option maxRecDepth 100000 in
theorem zeros_bv (k : Nat) : Builtin.zeroCells (Value.int .u8 0).cells k = (bv (List.replicate k 0)).toArray := by
  apply Array.ext
  · simp [Builtin.zeroCells, Value.cells, bv]
  · intro j h1 h2
    simp [Builtin.zeroCells, Value.cells, bv, Nat.mod_one]
set_option maxRecDepth 100000 in
/-- a new row that begins with the bytes l is owned -/
theorem owns_fresh (w : World) (base cap n : Nat) (l : List Int) (rest : Array Value) (hl : l.length = n) (hr : n + rest.size = cap) (hm : cap ≤ maxLen) (hb : base ≤ w.heap.size) :
    (w.alloc (.cells ((bv l).toArray ++ rest) 5)).ownsRow base 5 1 (.slice (some ⟨w.heap.size, 0, none⟩) n cap) n (bv l) := by
  refine ⟨by rw [bv_length, hl, Nat.mul_one], .inr ⟨w.heap.size, cap, _, rfl, hb, heap_alloc_new w _, by omega, hm, ?_, ?_⟩⟩
  · rw [Array.size_append, List.size_toArray, bv_length, hl, Nat.mul_one]; exact hr
  · rw [Array.toList_append, Nat.mul_one, ← hl, ← bv_length]; exact List.take_left
set_option maxRecDepth 100000 in
theorem app_zeros (w : World) (ty : TypeId) (base n k : Nat) (v : Value) (l : List Int) (hown : w.ownsRow base 5 1 v n (bv l)) (hbd : n + k ≤ 1099511627776) (hbase : base ≤ w.heap.size) :
    ∃ v' w', (Builtin.append_ #[34, 3] ty #[v, .int .i64 k]).run Tryz.prog w = .ok v' w' ∧ w'.ownsRow base 5 1 v' (n + k) (bv (l ++ List.replicate k 0)) ∧ Below base w w' := by
  obtain ⟨i0, hi, hz0, hz1, hz2⟩ := info_parts Tryz.info5
  have hs := Tryz.underlying34
  have hn := Tryz.underlying3
  have hlen : l.length = n := by have := hown.1; rw [bv_length, Nat.mul_one] at this; exact this
  have hw : IntKind.i64.wrap (k : Int) = k := by rw [IntKind.wrap_i64]; omega
  have hw0 : IntKind.i64.wrap 0 = 0 := by rw [IntKind.wrap_i64]; rfl
  have hcap : ∀ old, n + k ≤ grownCap w (n + k) old 5 ∧ grownCap w (n + k) old 5 ≤ maxLen := fun old => ⟨grownCap_ge _ _ _ _, grownCap_le_maxLen _ _ _ _ (by unfold maxLen; omega)⟩
  have hlow : ∀ o, Below base w (w.drew.alloc o) := fun o => (Below.refl base w).drew.alloc hbase o
  have hll : (l ++ List.replicate k 0).length = n + k := by rw [List.length_append, List.length_replicate, hlen]
  rcases hown.2 with ⟨rfl, rfl⟩ | ⟨g, cap, cur, rfl, hbg, hg, hnc, hcm, hcs, htake⟩
  · obtain rfl : l = [] := List.eq_nil_of_length_eq_zero hlen
    by_cases hk : k = 0
    · subst hk
      refine ⟨.slice none 0 0, w, ?_, World.ownsRow_nil _ _ _ _, Below.refl _ _⟩
      simp [Builtin.append_, run_underlying hs, run_underlying hn, sizeOf, typeInfo, hi, asInt, asIntOf, hw0]
    · have hr := Lib.run_append_nil_zeros (P := Tryz.prog) w 34 3 ty 5 i0 (.int .u8 0) .i64 .i64 hs hn hi hz0 k (by omega) (by rw [hz1]; decide) (by omega) (by rw [hz2]; omega)
      rw [zeros_bv] at hr
      refine ⟨_, _, hr, ?_, hlow _⟩
      have hc := hcap 0
      rw [Nat.zero_add] at hc ⊢
      exact owns_fresh w.drew base _ k _ _ (by simp) (by rw [size_zeroCells]; simp [Value.cells]; omega) hc.2 hbase
  · rw [Nat.mul_one] at hcs htake
    by_cases hroom : n + k ≤ cap
    · by_cases hk : k = 0
      · subst hk
        refine ⟨.slice (some ⟨g, 0, none⟩) n cap, w, ?_, by rw [List.replicate_zero, List.append_nil]; exact hown, Below.refl _ _⟩
        simp [Builtin.append_, run_underlying hs, run_underlying hn, sizeOf, typeInfo, hi, asInt, asIntOf, hw0, hnc, storeCells]
      · have hst := run_storeCells_at Tryz.prog g n 5 (bv (List.replicate k 0)) 0 cur w hg (by rw [bv_length, List.length_replicate]; omega) (bv_one _)
        simp only [Nat.add_zero] at hst
        have hneg : ¬ ((k : Int) < 0) := by omega
        have h48 : ¬ (281474976710656 < (k : Int)) := by omega
        have hzz := zeros_bv k
        refine ⟨_, w.setRow g (cur.toList.take n ++ bv (List.replicate k 0) ++ cur.toList.drop (n + k)).toArray, ?_, ⟨by rw [bv_length, hll, Nat.mul_one], .inr ⟨g, cap, _, rfl, hbg, setRow_heap w g cur _ 5 _ hg, hroom, hcm, ?_, ?_⟩⟩, ?_⟩
        · simp only [bv_length, List.length_replicate] at hst
          simp [Builtin.append_, run_underlying hs, run_underlying hn, sizeOf, typeInfo, zeroValue, hi, hz0, hz1, hz2, asInt, asIntOf, hw, hneg, h48, hk, hroom, hzz, Addr.add_lit, hst]
        · rw [List.size_toArray, List.length_append, List.length_append, List.length_take, List.length_drop, Array.length_toList, bv_length, List.length_replicate]; omega
        · rw [htake, bv_append, Nat.mul_one]
          exact List.take_left' (by rw [List.length_append, bv_length, bv_length, List.length_replicate, hlen])
        · exact below_setRow (Below.refl _ _) hbg _
    · have hk : 0 < k := by omega
      have hold := run_firstCells_some (P := Tryz.prog) w.drew i0.size n ⟨g, 0, none⟩ n cap (bv l) (by rw [bv_length, hz1, hlen, Nat.mul_one]) (hown.cells (g := g) rfl)
      have hr := Lib.run_append_grow_zeros (P := Tryz.prog) w 34 3 ty 5 i0 (.int .u8 0) .i64 .i64 hs hn hi hz0 (some ⟨g, 0, none⟩) n cap (bv l) hold k hk (by rw [hz1]; decide) (by omega) (by omega) (by rw [hz2]; omega) (by rw [hz2]; exact growslice_fits (by omega) (by omega))
      rw [zeros_bv k, show (bv l).toArray ++ (bv (List.replicate k 0)).toArray = (bv (l ++ List.replicate k 0)).toArray from by rw [bv_append]; simp] at hr
      refine ⟨_, _, hr, ?_, hlow _⟩
      have hc := hcap cap
      exact owns_fresh w.drew base _ (n + k) _ _ hll (by rw [size_zeroCells]; simp [Value.cells]; omega) hc.2 hbase
set_option maxRecDepth 100000 in
theorem wpList_app_zeros {ops : Array Oper} {rest : List Oper} {o : Oper} {a : Act} {w : World} {Q : Exit → Act → World → Prop} (hgd : o.guard = none) (s x : Operand)
    (ho : o.op = .call { callee := .builtin .append, args := #[s, x], argTypes := #[34, 3] })
    (base n k : Nat) (v : Value) (l : List Int) (hs : a.eval s = v) (hx : a.eval x = .int .i64 k) (hown : w.ownsRow base 5 1 v n (bv l)) (hbd : n + k ≤ 1099511627776) (hbase : base ≤ w.heap.size)
    (h : ∀ v' w', w'.ownsRow base 5 1 v' (n + k) (bv (l ++ List.replicate k 0)) → Below base w w' → wpList Tryz.prog ops Q rest (a.put o.dst v') w') : wpList Tryz.prog ops Q (o :: rest) a w := by
  obtain ⟨v', w', hr, h1, h2⟩ := app_zeros w o.type base n k v l hown hbd hbase
  exact Lib.wpList_append_run w hgd s x 34 3 ho v (.int .i64 k) hs hx v' w' hr (h v' w' h1 h2)
end Go.Proofs.YtipakjenggeflaaGreatDoor
namespace Go.Proofs.YtipakjenggeflaaGreatDoor
open Go.RowKit
set_option linter.unusedVariables false

set_option maxRecDepth 100000 in
theorem owns_none {w : World} {base g n cap : Nat} {xs : List Value} (h : w.ownsRow base 5 1 (.slice (some ⟨g, 0, none⟩) n cap) n xs) : w.ownsRow base 5 1 (.slice (some ⟨g, 0, none⟩) 0 cap) 0 (bv []) := by
  refine ⟨rfl, ?_⟩
  rcases h.2 with ⟨h2, _⟩ | ⟨g', cap', cur, hv, hg, hh, hn, hm, hs, _⟩
  · cases h2
  · cases hv
    exact .inr ⟨g, cap, cur, rfl, hg, hh, Nat.zero_le _, hm, hs, by simp [bv]⟩
set_option maxRecDepth 100000 in
theorem owns_cap {w : World} {base g n cap size : Nat} {e : TypeId} {xs : List Value} (h : w.ownsRow base e size (.slice (some ⟨g, 0, none⟩) n cap) n xs) : n ≤ cap ∧ cap ≤ maxLen := by
  rcases h.2 with ⟨h2, _⟩ | ⟨g', cap', cur, hv, hg, hh, hn, hm, hs, _⟩
  · cases h2
  · cases hv; exact ⟨hn, hm⟩
set_option maxRecDepth 100000 in
set_option maxHeartbeats 400000 in
theorem grow_any (k : Nat) (w : World) (hk : k ≤ 1099511627776) :
    Calls Tryz.prog 167 #[.slice none 0 0, .int .i64 k] w fun e w' => ∃ v, e = .returned v ∧ w'.ownsRow w.heap.size 5 1 v 0 (bv []) ∧ Below w.heap.size w w' := by
  by_cases h0 : k = 0
  · subst h0
    go_enter Tryz.func167, Tryz.ntmps167
    go_wp2
    go_ret
    exact ⟨_, rfl, World.ownsRow_nil _ _ _ _, Below.refl _ _⟩
  · have h1 : (0 : Int) < (k : Int) := by omega
    have hn := World.ownsRow_nil w w.heap.size 5 1
    go_enter Tryz.func167, Tryz.ntmps167
    go_wp2_with (at_builtin; refine wpList_app_zeros rfl (.tmp 20) (.tmp 21) rfl w.heap.size 0 k _ [] rfl rfl hn (by omega) (Nat.le_refl _) ?_; intro v1 w1 ho hb; obtain ⟨g, cap, rfl, hg, hlt⟩ := owns_form ho (by omega); have hcap := (owns_cap ho).2; unfold maxLen at hcap; have ho2 := owns_none ho; clear ho)
    go_ret
    exact ⟨_, rfl, ho2, hb⟩
/-- the first i parts together -/
def catL (L : Nat → List Int) : Nat → List Int
  | 0 => []
  | i + 1 => catL L i ++ L i
set_option maxRecDepth 100000 in
theorem catL_le (L : Nat → List Int) (i k : Nat) (h : i ≤ k) : (catL L i).length ≤ (catL L k).length := by
  induction k with
  | zero => have : i = 0 := by omega
            rw [this]; exact Nat.le_refl _
  | succ k ih =>
    by_cases hi : i = k + 1
    · rw [hi]; exact Nat.le_refl _
    · have := ih (by omega)
      show _ ≤ (catL L k ++ L k).length
      rw [List.length_append]; omega
set_option maxRecDepth 100000 in
set_option maxHeartbeats 1000000 in
theorem concat_any (k b : Nat) (a : Nat → Option Addr) (n c : Nat → Nat) (L : Nat → List Int) (w : World) (hcell : ∀ i, i < k → w.cell? ⟨b, i, none⟩ = some (.slice (a i) (n i) (c i))) (hblt : b < w.heap.size)
    (hB : ∀ i, i < k → Bts w (a i) (n i) (c i) (L i)) (hbd : (catL L k).length ≤ 1099511627776) (hk : k ≤ 1000) :
    Calls Tryz.prog 90 #[.slice (some ⟨b, 0, none⟩) k k] w fun e w' => ∃ v, e = .returned v ∧ w'.ownsRow w.heap.size 5 1 v (catL L k).length (bv (catL L k)) ∧ Below w.heap.size w w' := by
  go_enter Tryz.func90, Tryz.ntmps90
  go_wp2
  go_loop [3, 11] (fun s i => ∃ j m : Nat, j ≤ k ∧ m = (catL L j).length ∧ s = .int .i64 m ∧ i = .int .i64 j) (fun _ i => k - (intOf i).toNat)
  case atStart => exact ⟨0, 0, Nat.zero_le _, rfl, rfl, rfl⟩
  case round =>
    obtain ⟨j, m, hj, hm, rfl, rfl⟩ := hrel
    have hmle : m ≤ 1099511627776 := by rw [hm]; exact Nat.le_trans (catL_le L j k hj) hbd
    by_cases hlt : j < k
    · have hc := hcell j hlt
      have hx : j + 1 ≤ k := hlt
      have HM : Hid (m + n j = (catL L (j + 1)).length) := by
        show _ = (catL L j ++ L j).length
        rw [List.length_append, hm, (hB j hlt).len_eq]
      have hmn : m + n j ≤ 1099511627776 := by rw [HM.out]; exact Nat.le_trans (catL_le L _ k hx) hbd
      generalize a j = aj at hc
      generalize n j = nj at hc HM hmn
      generalize c j = cj at hc
      have j0 : (j : Int) < (k : Int) := by omega
      have HH : Hid (m = (catL L j).length) := hm
      clear hm hB hcell
      go_wp2
      go_round
      case rel => exact ⟨j + 1, m + nj, by omega, HM.out, by go_num, by go_num⟩
      case measure => simp [intOf]; omega
    · obtain rfl : j = k := by omega
      have HM : Hid (m = (catL L j).length) := hm
      clear hm
      go_wp2_with fail
      refine (grow_any m _ hmle).mono ?_
      rintro e w1 ⟨v, rfl, hown, hb1⟩
      go_wp2
      go_loopw [6, 27] (fun s i wr => ∃ q : Nat, q ≤ j ∧ i = .int .i64 q ∧ wr.ownsRow w.heap.size 5 1 s (catL L q).length (bv (catL L q)) ∧ Below w.heap.size w wr) (fun _ i _ => j - (intOf i).toNat)
      case atStart => exact ⟨0, Nat.zero_le _, rfl, hown, hb1⟩
      case round =>
        clear hown hb1
        obtain ⟨q, hq, rfl, hown, hb1⟩ := hrel
        by_cases hlt2 : q < j
        · have hc := (hb1.cell (p := ⟨b, q, none⟩) hblt).trans (hcell q hlt2)
          have hbt := (hB q hlt2).below hb1
          have hql : (catL L q).length + n q ≤ 1099511627776 := by
            have := catL_le L (q + 1) j hlt2
            have e : (catL L (q + 1)).length = (catL L q).length + (L q).length := by show (catL L q ++ L q).length = _; rw [List.length_append]
            rw [e, (hB q hlt2).len_eq] at this
            omega
          have HM : Hid ((catL L q).length + n q = (catL L (q + 1)).length) := by
            show _ = (catL L q ++ L q).length
            rw [List.length_append, (hB q hlt2).len_eq]
          have HC : Bx (catL L q ++ L q = catL L (q + 1)) := ⟨rfl⟩
          have hsz := hb1.size
          generalize a q = aj at hc hbt
          generalize n q = nj at hc hbt hql HM
          generalize c q = cj at hc hbt
          generalize (catL L q).length = ln at hown hql HM
          have j0 : (q : Int) < (j : Int) := by omega
          clear hcell hB
          go_wp2_with (at_builtin; refine wpList_append_bts rfl (.tmp 31) (.tmp 32) rfl w.heap.size ln _ (catL L q) rfl hown aj nj cj (L q) rfl hbt (by omega) hsz ?_; intro v' w' ho' hb' hg'; have hb2 := hb1.trans hb'; rw [HM.out, HC.out] at ho'; clear hb' hg' hown hbt hc)
          go_roundw
          case rel => exact ⟨q + 1, by omega, by go_num, ho', hb2⟩
          case measure => simp [intOf]; omega
        · obtain rfl : q = j := by omega
          go_wp2
          go_ret
          exact ⟨_, rfl, hown, hb1⟩
end Go.Proofs.YtipakjenggeflaaGreatDoor
namespace Go.Proofs.YtipakjenggeflaaGreatDoor
open Go.RowKit
set_option linter.unusedVariables false

set_option maxRecDepth 100000 in
theorem concat2_new (b : Nat) (a0 a1 : Option Addr) (n0 n1 c0 c1 : Nat) (l0 l1 : List Int) (w : World) (h0 : w.cell? ⟨b, 0, none⟩ = some (.slice a0 n0 c0)) (h1 : w.cell? ⟨b, 1, none⟩ = some (.slice a1 n1 c1)) (hblt : b < w.heap.size)
    (B0 : Bts w a0 n0 c0 l0) (B1 : Bts w a1 n1 c1 l1) (hbd : n0 + n1 ≤ 1099511627776) :
    Calls Tryz.prog 90 #[.slice (some ⟨b, 0, none⟩) 2 2] w fun e w' => ∃ a c, e = .returned (.slice a (n0 + n1) c) ∧ Bts w' a (n0 + n1) c (l0 ++ l1) ∧ (∀ p, a = some p → w.heap.size ≤ p.block) ∧ Below w.heap.size w w' := by
  have hc : catL (fun i => if i = 0 then l0 else l1) 2 = l0 ++ l1 := by simp [catL]
  have hl : (catL (fun i => if i = 0 then l0 else l1) 2).length = n0 + n1 := by rw [hc, List.length_append, B0.len_eq, B1.len_eq]
  refine (concat_any 2 b (fun i => if i = 0 then a0 else a1) (fun i => if i = 0 then n0 else n1) (fun i => if i = 0 then c0 else c1) (fun i => if i = 0 then l0 else l1) w (fun i hi => ?_) hblt (fun i hi => ?_) (by rw [hl]; exact hbd) (by decide)).mono ?_
  · match i, hi with
    | 0, _ => exact h0
    | 1, _ => exact h1
  · match i, hi with
    | 0, _ => exact B0
    | 1, _ => exact B1
  · rintro e w' ⟨v, rfl, ho, hb⟩
    rw [hl, hc] at ho
    obtain ⟨ao, cap, rfl, hB⟩ := Bts.of_owns ho (B0.byt.append B1.byt)
    exact ⟨ao, cap, rfl, hB, fun p hp => (ho.lt p.block (by rw [hp]; rfl)).1, hb⟩
end Go.Proofs.YtipakjenggeflaaGreatDoor
