/- Lists of bools in memory; the way down to a place: the document's own Steps. -/
import Derived.Test.YtfkloilbjfleeaaDoorSplit
import Derived.Test.YtfkloilbjfleeaaDoorSmd
import Derived.Test.YtfkloilbjfleeaaDoorSma
namespace Go.Proofs.YtfkloilbjfleeaaDoor
open Go.RowKit
set_option linter.unusedVariables false

set_option maxRecDepth 100000 in
theorem Tryd.info4 : (Tryd.prog.info? 4).map (fun i => (i.zero, i.size, i.bytes)) = some (some (.bool false), 1, 1) := by kernel_rfl
/-- bools as cells -/
def bb (l : List Bool) : List Value := l.map Value.bool
set_option maxRecDepth 100000 in
theorem bb_length (l : List Bool) : (bb l).length = l.length := by simp [bb]
set_option maxRecDepth 100000 in
theorem bb_append (l m : List Bool) : bb (l ++ m) = bb l ++ bb m := by simp [bb]
set_option maxRecDepth 100000 in
theorem bb_one (l : List Bool) : ∀ u ∈ bb l, u.oneCell' = true := by
  intro u hu
  obtain ⟨c, _, rfl⟩ := List.mem_map.1 hu
  rfl
set_option maxRecDepth 100000 in
/-- a bool behind an own row of bools -/
theorem wpList_append_bool {ops : Array Oper} {rest : List Oper} {o : Oper} {a : Act} {wr : World} {Q : Exit → Act → World → Prop} (hgd : o.guard = none) (s x : Operand)
    (ho : o.op = .call { callee := .builtin .append, args := #[s, x], argTypes := #[51, 51] })
    (base n : Nat) (v : Value) (l : List Bool) (hs : a.eval s = v) (hown : wr.ownsRow base 4 1 v n (bb l)) (c : Bool) (hx : a.eval x = .slice (some ⟨wr.heap.size, 0, none⟩) 1 1) (hn : n ≤ 1000) (hbase : base ≤ wr.heap.size)
    (h : ∀ v' w', w'.ownsRow base 4 1 v' (n + 1) (bb (l ++ [c])) → Below base wr w' → wpList Tryd.prog ops Q rest (a.put o.dst v') w') : wpList Tryd.prog ops Q (o :: rest) a (wr.alloc (.cells #[.bool c] 4)) := by
  obtain ⟨i0, hi, hz0, hz1, hz2⟩ := info_parts Tryd.info4
  refine wpList_append_own _ hgd s x 51 ho base 4 i0 (.bool false) 1 1 Tryd.underlying51 hi hz0 hz1 hz2 rfl (by decide) v n (bb l) hs (hown.alloc _) ⟨wr.heap.size, 0, none⟩ 1 1 [.bool c] hx rfl (cell_one_new _ _ _) (bb_one [c]) (by unfold maxLen; omega) (by omega) (by simp; omega) ?_
  intro v' w' ho' hg _
  exact h v' w' (by rw [bb_append]; exact ho') (((Below.refl base wr).alloc hbase _).grown hg (by simp; omega) (fun k hk => (hown.lt k hk).1))

set_option maxRecDepth 100000 in
set_option maxHeartbeats 1000000 in
theorem steps_any (n i : Nat) (w : World) (hn : 1 ≤ n) (hn63 : n ≤ 9223372036854775807) (hi : i < n) :
    Calls Tryd.prog 28 #[.int .i64 n, .int .i64 i] w fun e w' => ∃ v, e = .returned v ∧ w'.ownsRow w.heap.size 4 1 v (stepsL n i).length (bb (stepsL n i)) ∧ Below w.heap.size w w' := by
  have hbits := stepsL_bits 63 n i (by omega)
  go_enter Tryd.func28, Tryd.ntmps28
  go_wp2
  go_loopw [0, 1, 5] (fun vn vi s wr => ∃ (p q : Nat) (pre : List Bool), 1 ≤ p ∧ p ≤ n ∧ q < p ∧ vn = .int .i64 p ∧ vi = .int .i64 q ∧ pre ++ stepsL p q = stepsL n i ∧ wr.ownsRow w.heap.size 4 1 s pre.length (bb pre) ∧ Below w.heap.size w wr) (fun vn _ _ _ => (intOf vn).toNat)
  case atStart => exact ⟨n, i, [], hn, Nat.le_refl _, hi, rfl, rfl, rfl, World.ownsRow_nil _ _ _ _, Below.refl _ _⟩
  case round =>
    obtain ⟨p, q, pre, hp1, hpn, hqp, rfl, rfl, hpre, hown, hlow⟩ := hrel
    have HPRE : Hid (pre ++ stepsL p q = stepsL n i) := hpre
    have hpl : pre.length ≤ 63 := by
      have := congrArg List.length hpre
      rw [List.length_append] at this; omega
    clear hpre
    have hsz := hlow.size
    by_cases hgt : 1 < p
    · have hg : (1 : Int) < (p : Int) := by omega
      have hk1 := splitN_pos (n := p) (by omega)
      have hk2 := splitN_lt (n := p) (by omega)
      have HSP : Bx (∀ W, Calls Tryd.prog 48 #[.int .i64 (p : Int)] W fun e w' => e = .returned (.int .i64 (splitN p : Int)) ∧ W = w') := ⟨fun W => refsplit_any (p : Int) W (by omega)⟩
      by_cases hqk : q < splitN p
      · have HN : Hid ((pre ++ [false]) ++ stepsL (splitN p) q = stepsL n i) := by show _ = _; rw [← HPRE.out, stepsL_left (by omega) hqk, List.append_assoc]; rfl
        have hki : (q : Int) < (splitN p : Int) := by omega
        clear HPRE
        generalize splitN p = k at hk1 hk2 HSP hqk HN hki
        go_wp2_with fail
        refine (HSP.out _).mono ?_
        rintro e w' ⟨rfl, rfl⟩
        clear HSP
        go_wp2_with (at_builtin; refine wpList_append_bool rfl (.tmp 14) (.tmp 15) rfl w.heap.size pre.length _ pre rfl hown false rfl (by omega) hsz ?_; intro v2 w2 hown2 hb2; have hlow2 := hlow.trans hb2; clear hb2 hown)
        go_roundw
        case rel => exact ⟨k, q, pre ++ [false], hk1, by omega, hqk, rfl, rfl, HN.out, by rw [List.length_append]; exact hown2, hlow2⟩
        case measure => simp [intOf]; omega
      · have HN : Hid ((pre ++ [true]) ++ stepsL (p - splitN p) (q - splitN p) = stepsL n i) := by show _ = _; rw [← HPRE.out, stepsL_right (by omega) hqk, List.append_assoc]; rfl
        have hki : ¬ (q : Int) < (splitN p : Int) := by omega
        clear HPRE
        generalize splitN p = k at hk1 hk2 HSP hqk HN hki
        go_wp2_with fail
        refine (HSP.out _).mono ?_
        rintro e w' ⟨rfl, rfl⟩
        clear HSP
        go_wp2_with (at_builtin; refine wpList_append_bool rfl (.tmp 18) (.tmp 19) rfl w.heap.size pre.length _ pre rfl hown true rfl (by omega) hsz ?_; intro v2 w2 hown2 hb2; have hlow2 := hlow.trans hb2; clear hb2 hown)
        go_roundw
        case rel => exact ⟨p - k, q - k, pre ++ [true], by omega, by omega, by omega, by go_num, by go_num, HN.out, by rw [List.length_append]; exact hown2, hlow2⟩
        case measure => simp [intOf]; omega
    · have hg : ¬ (1 : Int) < (p : Int) := by omega
      have HE : Hid (pre = stepsL n i) := by show _ = _; rw [← HPRE.out, stepsL_one q (by omega), List.append_nil]
      go_wp2
      go_ret
      exact ⟨_, rfl, by rw [← HE.out]; exact hown, hlow⟩
end Go.Proofs.YtfkloilbjfleeaaDoor
