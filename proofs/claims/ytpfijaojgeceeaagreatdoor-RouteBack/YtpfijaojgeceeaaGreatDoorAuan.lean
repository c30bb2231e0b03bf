/- Bytes of whatever make behind an own row: 'append(b, c...)'. What the document's Same answers: whether two lists of bytes are the same. Requests all at once, line by line, as the document reads them: the same as byte by byte. No walk. Readers of requests: where one stands behind bytes; what Put, Take and Idle answer; the document's own reader. No walk. Numbers in ten digits; answers, written and read. No walk. -/
import Derived.Test.YtpfijaojgeceeaaGreatDoorCut
import Derived.Test.YtpfijaojgeceeaaGreatDoorBase
import Derived.Test.YtpfijaojgeceeaaGreatDoorWireMath
namespace Go.Proofs.YtpfijaojgeceeaaGreatDoor
open Go.RowKit
set_option linter.unusedVariables false

set_option maxRecDepth 100000 in
/-- bytes of whatever make behind an own row -/
theorem wp_append_bts {o : Oper} {a : Act} {w : World} {K : Act → World → Prop} {Q : Exit → Act → World → Prop} (s x : Operand)
    (ho : o.op = .call { callee := .builtin .append, args := #[s, x], argTypes := #[22, 22] })
    (base n : Nat) (v : Value) (l : List Int) (hs : a.eval s = v) (hown : w.ownsRow base 5 1 v n (bv l))
    (ao : Option Addr) (m c : Nat) (l2 : List Int) (hx : a.eval x = .slice ao m c) (hb : Bts w ao m c l2) (h63 : n + m ≤ 140737488355328) (hbase : base ≤ w.heap.size)
    (h : ∀ v' w', w'.ownsRow base 5 1 v' (n + m) (bv (l ++ l2)) → Below base w w' → w.grownBy w' v.ownBlock → K (a.put o.dst v') w') : o.wp Tryz.prog a w K Q := by
  obtain ⟨i0, hi, hz0, hz1, hz2⟩ := info_parts Tryz.info5
  cases ao with
  | none =>
    have h0 := hb.nil rfl
    have h1 := hb.le_cap
    obtain rfl : c = 0 := h0
    obtain rfl : m = 0 := by omega
    obtain rfl : l2 = [] := List.eq_nil_of_length_eq_zero hb.len_eq
    have hrun := run_append_owned_none (P := Tryz.prog) (w := w) base 22 o.type 5 i0 1 Tryz.underlying22 hi v n (bv l) hown
    unfold Oper.wp
    simp [execOp, ho, resolve, invoke, builtin, hs, hx, hrun, Result.andThen]
    exact h _ _ (by rw [List.append_nil]; exact hown) (Below.refl _ _) ⟨rfl, rfl, rfl, Nat.le_refl _, fun _ _ _ => rfl⟩
  | some ad =>
    have hl := hb.len_eq
    refine wp_append_own w s x 22 ho base 5 i0 (.int .u8 0) 1 1 Tryz.underlying22 hi hz0 hz1 hz2 rfl (by decide) v n (bv l) hs hown ad m c (bv l2) hx (by rw [bv_length]; omega) hb.cells (bv_one l2) (by unfold maxLen; omega) (by omega) hbase ?_
    intro v' w' ho' hg _
    exact h v' w' (by rw [bv_append]; exact ho') ((Below.refl _ _).grown hg hbase (fun k hk => (hown.lt k hk).1)) hg
set_option maxRecDepth 100000 in
theorem wpList_append_bts {ops : Array Oper} {rest : List Oper} {o : Oper} {a : Act} {w : World} {Q : Exit → Act → World → Prop} (hgd : o.guard = none) (s x : Operand)
    (ho : o.op = .call { callee := .builtin .append, args := #[s, x], argTypes := #[22, 22] })
    (base n : Nat) (v : Value) (l : List Int) (hs : a.eval s = v) (hown : w.ownsRow base 5 1 v n (bv l))
    (ao : Option Addr) (m c : Nat) (l2 : List Int) (hx : a.eval x = .slice ao m c) (hb : Bts w ao m c l2) (h63 : n + m ≤ 140737488355328) (hbase : base ≤ w.heap.size)
    (h : ∀ v' w', w'.ownsRow base 5 1 v' (n + m) (bv (l ++ l2)) → Below base w w' → w.grownBy w' v.ownBlock → wpList Tryz.prog ops Q rest (a.put o.dst v') w') : wpList Tryz.prog ops Q (o :: rest) a w :=
  wpList_plain hgd fun K hK => wp_append_bts s x ho base n v l hs hown ao m c l2 hx hb h63 hbase (fun v' w' h1 h2 h3 => hK _ _ (h v' w' h1 h2 h3))
set_option maxRecDepth 100000 in
theorem step_append_bts {ops : Array Oper} {o : Oper} {a : Act} {w : World} {K : Act → World → Prop} {Q : Exit → Act → World → Prop} {E : Prop} (hgd : o.guard = none) (s x : Operand)
    (ho : o.op = .call { callee := .builtin .append, args := #[s, x], argTypes := #[22, 22] })
    (base n : Nat) (v : Value) (l : List Int) (hs : a.eval s = v) (hown : w.ownsRow base 5 1 v n (bv l))
    (ao : Option Addr) (m c : Nat) (l2 : List Int) (hx : a.eval x = .slice ao m c) (hb : Bts w ao m c l2) (h63 : n + m ≤ 140737488355328) (hbase : base ≤ w.heap.size)
    (h : ∀ v' w', w'.ownsRow base 5 1 v' (n + m) (bv (l ++ l2)) → Below base w w' → w.grownBy w' v.ownBlock → K (a.put o.dst v') w') :
    if Region.wanted o (yielded ops a.tmps) = true then Oper.wp Tryz.prog o a w K Q else E := by
  have hw : Region.wanted o (yielded ops a.tmps) = true := by simp [Region.wanted, hgd]
  rw [if_pos hw]
  exact wp_append_bts s x ho base n v l hs hown ao m c l2 hx hb h63 hbase h
end Go.Proofs.YtpfijaojgeceeaaGreatDoor
namespace Go.Proofs.YtpfijaojgeceeaaGreatDoor
open Go.RowKit
set_option linter.unusedVariables false

set_option maxRecDepth 100000 in
theorem same_step {la lb : List Int} {k : Nat} (h : la.take k = lb.take k) (ha : k < la.length) (hb : k < lb.length) (e : la.getD k 0 = lb.getD k 0) : la.take (k + 1) = lb.take (k + 1) := by
  rw [take_succ_getD la k ha, take_succ_getD lb k hb, h, e]
set_option maxRecDepth 100000 in
theorem same_not {la lb : List Int} {k : Nat} (e : la.getD k 0 ≠ lb.getD k 0) : decide (la = lb) = false := by
  rw [decide_eq_false_iff_not]; intro h; exact e (by rw [h])

set_option maxHeartbeats 400000 in
theorem same_any (a b : Option Addr) (n m c d : Nat) (la lb : List Int) (w : World) (ha : Bts w a n c la) (hb : Bts w b m d lb) :
    Calls Tryz.prog 17 #[.slice a n c, .slice b m d] w fun e w' => e = .returned (.bool (decide (la = lb))) ∧ ∃ q, w' = w.drewN q := by
  have hn := Nat.le_trans ha.le_cap ha.cap_le
  have hm := Nat.le_trans hb.le_cap hb.cap_le
  unfold maxLen at hn hm
  have hla := ha.len_eq
  have hlb := hb.len_eq
  by_cases hne : n = m
  · subst hne
    have hq : ((n : Int) != (n : Int)) = false := by simp
    have HA : Hid (la.length = n) := hla
    have HB : Hid (lb.length = n) := hlb
    clear hla hlb
    go_enter Tryz.func17, Tryz.ntmps17
    go_wp2
    go_loopw [5] (fun i wr => ∃ k : Nat, k ≤ n ∧ i = .int .i64 k ∧ la.take k = lb.take k ∧ ∃ q, wr = w.drewN q) (fun i _ => n - (intOf i).toNat)
    case atStart => exact ⟨0, Nat.zero_le _, rfl, by simp, 0, rfl⟩
    case round =>
      obtain ⟨k, hk, rfl, ht, q, rfl⟩ := hrel
      have HT : Hid (la.take k = lb.take k) := ht
      clear ht
      by_cases hlt : k < n
      · obtain ⟨b1, o1, rfl, _, hc1⟩ := ha.spot (by omega)
        obtain ⟨b2, o2, rfl, _, hc2⟩ := hb.spot (by omega)
        have hx := hc1 k hlt
        have hy := hc2 k hlt
        clear hc1 hc2
        have hki : (k : Int) < (n : Int) := by omega
        generalize hav : la.getD k 0 = av at hx
        generalize hbv : lb.getD k 0 = bw at hy
        have HAV : Hid (la.getD k 0 = av) := hav
        have HBV : Hid (lb.getD k 0 = bw) := hbv
        clear hav hbv
        by_cases he : av = bw
        · have hd : (av != bw) = false := by simpa using he
          have HE : Hid (av = bw) := he
          clear he
          go_wp2
          go_quiet (fail)
          go_wp2
          go_roundw
          case rel => exact ⟨k + 1, by omega, by go_num, same_step HT.out (by rw [HA.out]; omega) (by rw [HB.out]; omega) (by rw [HAV.out, HBV.out, HE.out]), _, rfl⟩
          case measure => simp [intOf]; omega
        · have hd : (av != bw) = true := by simpa using he
          have HE : Hid (¬ av = bw) := he
          clear he
          go_wp2
          go_quiet (fail)
          go_wp2
          go_ret
          exact ⟨ret_bool (same_not (k := k) (by rw [HAV.out, HBV.out]; exact HE.out)).symm, drew_close _ _ _⟩
      · go_wp2
        go_ret
        refine ⟨?_, q, rfl⟩
        have h1 := HT.out
        rw [List.take_of_length_le (by rw [HA.out]; omega), List.take_of_length_le (by rw [HB.out]; omega)] at h1
        exact ret_bool (decide_eq_true h1).symm
  · have hq : ((n : Int) != (m : Int)) = true := by simp; omega
    have hf : decide (la = lb) = false := by rw [decide_eq_false_iff_not]; intro h; rw [h] at hla; omega
    rw [hf]
    go_enter Tryz.func17, Tryz.ntmps17
    go_wp2
    go_ret
    exact ⟨rfl, 0, rfl⟩

set_option maxRecDepth 100000 in
theorem same_yes (a b : Option Addr) (n m c d : Nat) (l : List Int) (w : World) (ha : Bts w a n c l) (hb : Bts w b m d l) :
    Calls Tryz.prog 17 #[.slice a n c, .slice b m d] w fun e w' => e = .returned (.bool true) ∧ ∃ q, w' = w.drewN q := by
  refine (same_any a b n m c d l l w ha hb).mono ?_
  rintro e w' ⟨rfl, q, rfl⟩
  exact ⟨ret_bool (by simp), q, rfl⟩
end Go.Proofs.YtpfijaojgeceeaaGreatDoor
namespace Go.Proofs.YtpfijaojgeceeaaGreatDoor
open Go.RowKit
set_option linter.unusedVariables false

/-- the line at a place p of a head, looked for from i on: its bytes, how many with CR and LF, the error -/
def lnR (b : List Int) (p : Nat) : Nat → Nat → List Int × Nat × Int
  | 0, _ => ([], 0, 3)
  | f + 1, i => if b.length ≤ i then ([], 0, 3) else if 1024 ≤ i then ([], 0, 5) else
    if (p < i ∧ b.getD (i - 1) 0 = 13) ∧ b.getD i 0 = 10 then ((b.drop p).take (i - 1 - p), i + 1 - p, 0) else
    if (p < i ∧ b.getD (i - 1) 0 = 13) ∨ b.getD i 0 = 10 ∨ (b.getD i 0 ≠ 13 ∧ (b.getD i 0 < 32 ∨ 127 ≤ b.getD i 0)) then ([], 0, 4) else lnR b p f (i + 1)
set_option maxRecDepth 100000 in
theorem bhd_part (b : List Int) (p i : Nat) (hi : i ≤ b.length) (hp : p ≤ i) : (bhd ((b.drop p).take (i - p)) = true) ↔ (p < i ∧ b.getD (i - 1) 0 = 13) := by
  unfold bhd
  rw [decide_eq_true_iff, List.getLast?_eq_getElem?]
  have hl : ((b.drop p).take (i - p)).length = i - p := by rw [List.length_take, List.length_drop]; omega
  rw [hl]
  by_cases h : p < i
  · rw [List.getElem?_take, if_pos (by omega), List.getElem?_drop, show p + (i - p - 1) = i - 1 from by omega, List.getD_eq_getElem?_getD, List.getElem?_eq_getElem (by omega : i - 1 < b.length)]
    simp [h]
  · rw [List.getElem?_eq_none (by rw [hl]; omega)]
    simp [h]
set_option maxRecDepth 100000 in
theorem badB_iff (cur : List Int) (c : Int) : (badB cur c = true) ↔ (bhd cur = true ∨ c = 10 ∨ (c ≠ 13 ∧ (c < 32 ∨ 127 ≤ c))) := by
  unfold badB
  simp [Bool.or_eq_true, Bool.and_eq_true]
set_option maxRecDepth 100000 in
theorem part_snoc (b : List Int) (p i : Nat) (hi : i < b.length) (hp : p ≤ i) : (b.drop p).take (i - p) ++ [b.getD i 0] = (b.drop p).take (i + 1 - p) := by
  rw [show i + 1 - p = (i - p) + 1 from by omega, take_succ_getD (b.drop p) (i - p) (by rw [List.length_drop]; omega)]
  congr 2
  rw [List.getD_eq_getElem?_getD, List.getD_eq_getElem?_getD, List.getElem?_drop, show p + (i - p) = i from by omega]
set_option maxRecDepth 100000 in
theorem part_last (b : List Int) (p i : Nat) (hi : i ≤ b.length) (hp : p < i) : ((b.drop p).take (i - p)).dropLast = (b.drop p).take (i - 1 - p) := by
  rw [List.dropLast_eq_take, List.length_take, List.length_drop, List.take_take]
  congr 1
  omega
set_option maxRecDepth 100000 in
theorem drop_head (l : List Int) (k : Nat) (h : k < l.length) : l.drop k = l.getD k 0 :: l.drop (k + 1) := by
  rw [List.getD_eq_getElem?_getD, List.getElem?_eq_getElem h]; exact List.drop_eq_getElem_cons h
set_option maxRecDepth 100000 in
/-- a line, byte by byte and at once -/
theorem run_ln (P : WP) (h : HD) (lines : Nat) (b : List Int) (p : Nat) : ∀ (f i : Nat), p ≤ i → i ≤ b.length → b.length < f + i →
    runQ P (.head h lines i ((b.drop p).take (i - p))) (b.drop i) i = if (lnR b p f i).2.2 ≠ 0 then (wx0, 0, (lnR b p f i).2.2) else
      if (eol P h lines (p + (lnR b p f i).2.1) (lnR b p f i).1).2 ≠ 0 then (wx0, 0, (eol P h lines (p + (lnR b p f i).2.1) (lnR b p f i).1).2) else
      runQ P (eol P h lines (p + (lnR b p f i).2.1) (lnR b p f i).1).1 (b.drop (p + (lnR b p f i).2.1)) (p + (lnR b p f i).2.1)
  | 0, i, hp, hi, hf => by omega
  | f + 1, i, hp, hi, hf => by
    unfold lnR
    by_cases he : b.length ≤ i
    · rw [if_pos he, if_pos (by simp), List.drop_of_length_le he, runQ_nil P rfl]
    · rw [if_neg he, drop_head b i (by omega), runQ_cons P rfl]
      by_cases h1 : 1024 ≤ i
      · have e : wst P (.head h lines i ((b.drop p).take (i - p))) (b.getD i 0) = (.head h lines i ((b.drop p).take (i - p)), 5) := by simp only [wst]; rw [if_pos h1]
        rw [e, if_pos h1, if_pos (by simp), if_pos (by simp)]
      · rw [if_neg h1]
        have hb := bhd_part b p i hi hp
        by_cases h2 : (p < i ∧ b.getD (i - 1) 0 = 13) ∧ b.getD i 0 = 10
        · have e : wst P (.head h lines i ((b.drop p).take (i - p))) (b.getD i 0) = eol P h lines (i + 1) ((b.drop p).take (i - 1 - p)) := by
            simp only [wst]; rw [if_neg h1, if_pos ⟨hb.2 h2.1, h2.2⟩, part_last b p i hi h2.1.1]
          have e2 : p + (i + 1 - p) = i + 1 := by omega
          rw [e, if_pos h2]
          simp only [e2, ne_eq, not_true_eq_false, if_false]
        · rw [if_neg h2]
          by_cases h3 : (p < i ∧ b.getD (i - 1) 0 = 13) ∨ b.getD i 0 = 10 ∨ (b.getD i 0 ≠ 13 ∧ (b.getD i 0 < 32 ∨ 127 ≤ b.getD i 0))
          · have e : wst P (.head h lines i ((b.drop p).take (i - p))) (b.getD i 0) = (.head h lines i ((b.drop p).take (i - p)), 4) := by
              simp only [wst]; rw [if_neg h1, if_neg (fun hh => h2 ⟨hb.1 hh.1, hh.2⟩), if_pos ((badB_iff _ _).2 (by rw [hb]; exact h3))]
            rw [e, if_pos h3, if_pos (by simp), if_pos (by simp)]
          · have e : wst P (.head h lines i ((b.drop p).take (i - p))) (b.getD i 0) = (.head h lines (i + 1) ((b.drop p).take (i + 1 - p)), 0) := by
              simp only [wst]; rw [if_neg h1, if_neg (fun hh => h2 ⟨hb.1 hh.1, hh.2⟩), if_neg (fun hh => h3 (by rw [← hb]; exact (badB_iff _ _).1 hh)), part_snoc b p i (by omega) hp]
            rw [e, if_neg h3, if_neg (by simp)]
            exact run_ln P h lines b p f (i + 1) (by omega) (by omega) (by omega)
set_option maxRecDepth 100000 in
theorem lnR_ok (b : List Int) (p : Nat) : ∀ (f i : Nat), p ≤ i → (lnR b p f i).2.2 = 0 → 2 ≤ (lnR b p f i).2.1 ∧ p + (lnR b p f i).2.1 ≤ b.length ∧ (lnR b p f i).1.length + 2 = (lnR b p f i).2.1 ∧ (lnR b p f i).1 = (b.drop p).take (lnR b p f i).1.length ∧ p + (lnR b p f i).2.1 ≤ 1024
  | 0, i, _, h => by simp [lnR] at h
  | f + 1, i, hp, h => by
    unfold lnR at h ⊢
    by_cases he : b.length ≤ i
    · rw [if_pos he] at h; simp at h
    · rw [if_neg he] at h ⊢
      by_cases h1 : 1024 ≤ i
      · rw [if_pos h1] at h; simp at h
      · rw [if_neg h1] at h ⊢
        by_cases h2 : (p < i ∧ b.getD (i - 1) 0 = 13) ∧ b.getD i 0 = 10
        · rw [if_pos h2] at h ⊢
          have hl : ((b.drop p).take (i - 1 - p)).length = i - 1 - p := by rw [List.length_take, List.length_drop]; omega
          have := h2.1.1
          refine ⟨by show 2 ≤ i + 1 - p; omega, by show p + (i + 1 - p) ≤ _; omega, by show ((b.drop p).take (i - 1 - p)).length + 2 = i + 1 - p; omega, ?_, by show p + (i + 1 - p) ≤ _; omega⟩
          show (b.drop p).take (i - 1 - p) = (b.drop p).take ((b.drop p).take (i - 1 - p)).length
          rw [hl]
        · rw [if_neg h2] at h ⊢
          by_cases h3 : (p < i ∧ b.getD (i - 1) 0 = 13) ∨ b.getD i 0 = 10 ∨ (b.getD i 0 ≠ 13 ∧ (b.getD i 0 < 32 ∨ 127 ≤ b.getD i 0))
          · rw [if_pos h3] at h; simp at h
          · rw [if_neg h3] at h ⊢
            exact lnR_ok b p f (i + 1) (by omega) h
/-- line by line; then the body -/
def whQ (P : WP) (b : List Int) : Nat → Nat → Nat → HD → WX × Nat × Int
  | 0, _, _, _ => (wx0, 0, 3)
  | f + 1, p, lines, h =>
    if (lnR b p (b.length + 1 - p) p).2.2 ≠ 0 then (wx0, 0, (lnR b p (b.length + 1 - p) p).2.2) else
    if lines = 0 then (match P.F (lnR b p (b.length + 1 - p) p).1 with | none => (wx0, 0, 4) | some (m, t) => whQ P b f (p + (lnR b p (b.length + 1 - p) p).2.1) 1 { h with m := m, t := t }) else
    if (lnR b p (b.length + 1 - p) p).1 = [] then bodR h b (p + (lnR b p (b.length + 1 - p) p).2.1) else
    if 17 ≤ lines then (wx0, 0, 5) else
    if (P.G h (lnR b p (b.length + 1 - p) p).1).2 ≠ 0 then (wx0, 0, (P.G h (lnR b p (b.length + 1 - p) p).1).2) else
    whQ P b f (p + (lnR b p (b.length + 1 - p) p).2.1) (lines + 1) (P.G h (lnR b p (b.length + 1 - p) p).1).1
set_option maxRecDepth 100000 in
theorem whQ_run (P : WP) (b : List Int) : ∀ (f p lines : Nat) (h : HD), p ≤ b.length → b.length < f + p → whQ P b f p lines h = runQ P (.head h lines p []) (b.drop p) p
  | 0, p, lines, h, hp, hf => by omega
  | f + 1, p, lines, h, hp, hf => by
    have hrun := run_ln P h lines b p (b.length + 1 - p) p (Nat.le_refl _) hp (by omega)
    rw [Nat.sub_self, List.take_zero] at hrun
    rw [hrun]
    unfold whQ
    by_cases h1 : (lnR b p (b.length + 1 - p) p).2.2 ≠ 0
    · rw [if_pos h1, if_pos h1]
    · rw [if_neg h1, if_neg h1]
      obtain ⟨k1, k2, _⟩ := lnR_ok b p _ p (Nat.le_refl _) (by simpa using h1)
      generalize lnR b p (b.length + 1 - p) p = Z at k1 k2
      obtain ⟨l, n, e⟩ := Z
      simp only at k1 k2 ⊢
      unfold eol
      by_cases h2 : lines = 0
      · rw [if_pos h2, if_pos h2]
        cases hF : P.F l with
        | none => simp only []; rw [if_pos (by simp)]
        | some mt =>
          obtain ⟨m, t⟩ := mt
          simp only []
          rw [if_neg (by simp)]
          exact whQ_run P b f (p + n) 1 _ k2 (by omega)
      · rw [if_neg h2, if_neg h2]
        by_cases h3 : l = []
        · rw [if_pos h3, if_pos h3, if_neg (by simp)]
          exact (run_bod P h b (p + n)).symm
        · rw [if_neg h3, if_neg h3]
          by_cases h4 : 17 ≤ lines
          · rw [if_pos h4, if_pos h4, if_pos (by simp)]
          · rw [if_neg h4, if_neg h4]
            by_cases h5 : (P.G h l).2 ≠ 0
            · rw [if_pos h5, if_pos h5]
            · rw [if_neg h5, if_neg h5]
              exact whQ_run P b f (p + n) (lines + 1) _ k2 (by omega)
end Go.Proofs.YtpfijaojgeceeaaGreatDoor
namespace Go.Proofs.YtpfijaojgeceeaaGreatDoor
open Go.RowKit
set_option linter.unusedVariables false

/-- where a reader stands behind bytes that have no error -/
def fldQ (P : WP) : WS → List Int → Option WS
  | s, [] => some s
  | s, b :: r => if (wst P s b).2 ≠ 0 then none else fldQ P (wst P s b).1 r
/-- at the beginning -/
def ws0 : WS := .head hd0 0 0 []
set_option maxRecDepth 100000 in
theorem fldQ_cons (P : WP) (s : WS) (b : Int) (r : List Int) : fldQ P s (b :: r) = if (wst P s b).2 ≠ 0 then none else fldQ P (wst P s b).1 r := rfl
set_option maxRecDepth 100000 in
theorem fldQ_done (P : WP) (x : WX) (b : Int) (r : List Int) : fldQ P (.done x) (b :: r) = none := by rw [fldQ_cons, if_pos (by simp [wst])]
set_option maxRecDepth 100000 in
theorem fldQ_app (P : WP) (B l : List Int) : ∀ s, fldQ P s (B ++ l) = (fldQ P s B).bind fun t => fldQ P t l := by
  induction B with
  | nil => intro s; rfl
  | cons c r ih =>
    intro s
    rw [List.cons_append, fldQ_cons, fldQ_cons]
    by_cases h1 : (wst P s c).2 ≠ 0
    · rw [if_pos h1, if_pos h1]; rfl
    · rw [if_neg h1, if_neg h1]; exact ih _
set_option maxRecDepth 100000 in
theorem fldQ_snoc {P : WP} {s t : WS} {B : List Int} {b : Int} (h : fldQ P s B = some t) (h1 : (wst P t b).2 = 0) : fldQ P s (B ++ [b]) = some (wst P t b).1 := by
  rw [fldQ_app, h]
  show fldQ P t [b] = _
  rw [fldQ_cons, if_neg (by rw [h1]; simp)]; rfl
set_option maxRecDepth 100000 in
theorem over_wst {P : WP} {s : WS} {b : Int} (h : (wst P s b).2 = 0) : s.over = false := by
  cases s with
  | done x => simp [wst] at h
  | head h l c u => rfl
  | fix h n u => rfl
  | chk h c => rfl
set_option maxRecDepth 100000 in
theorem run_fldQ (P : WP) (B l : List Int) : ∀ (s : WS) (k : Nat) (t : WS), fldQ P s B = some t → runQ P s (B ++ l) k = runQ P t l (k + B.length) := by
  induction B with
  | nil => intro s k t h; cases h; rfl
  | cons c r ih =>
    intro s k t h
    rw [fldQ_cons] at h
    by_cases h1 : (wst P s c).2 ≠ 0
    · rw [if_pos h1] at h; cases h
    · rw [if_neg h1] at h
      rw [List.cons_append, runQ_cons P (over_wst (by simpa using h1)), if_neg h1, ih _ _ _ h, List.length_cons]
      congr 1; omega
set_option maxRecDepth 100000 in
/-- one byte more, of all bytes anew -/
theorem run_oneQ (P : WP) (B : List Int) (b : Int) (s : WS) (k : Nat) (t : WS) (h : fldQ P s B = some t) (ho : t.over = false) : runQ P s (B ++ [b]) k = if (wst P t b).2 ≠ 0 then (wx0, 0, (wst P t b).2) else runQ P (wst P t b).1 [] (k + B.length + 1) := by
  rw [run_fldQ P B [b] s k t h, runQ_cons P ho]
set_option maxRecDepth 100000 in
theorem runQ_end (P : WP) (s : WS) (k : Nat) : (s.over = false ∧ runQ P s [] k = (wx0, 0, 3)) ∨ ∃ x, s = .done x ∧ runQ P s [] k = (x, k, 0) := by
  cases s with
  | done x => exact .inr ⟨x, rfl, rfl⟩
  | head h l c u => exact .inl ⟨rfl, rfl⟩
  | fix h n u => exact .inl ⟨rfl, rfl⟩
  | chk h c => exact .inl ⟨rfl, rfl⟩
set_option maxRecDepth 100000 in
/-- a request that is whole: all of its bytes have no error -/
theorem run_okQ (P : WP) : ∀ (l : List Int) (s : WS) (k : Nat) (x : WX) (K : Nat), runQ P s l k = (x, K, 0) → ∃ j, K = k + j ∧ j ≤ l.length ∧ fldQ P s (l.take j) = some (.done x)
  | [], s, k, x, K, h => by
    rcases runQ_end P s k with ⟨_, h2⟩ | ⟨y, rfl, h2⟩
    · rw [h2] at h; simp at h
    · rw [h2] at h
      simp only [Prod.mk.injEq, and_true] at h
      obtain ⟨rfl, rfl⟩ := h
      exact ⟨0, rfl, Nat.le_refl _, rfl⟩
  | b :: r, s, k, x, K, h => by
    cases ho : s.over with
    | true =>
      cases s with
      | done y =>
        rw [runQ_done] at h
        simp only [Prod.mk.injEq, and_true] at h
        obtain ⟨rfl, rfl⟩ := h
        exact ⟨0, rfl, Nat.zero_le _, rfl⟩
      | head h l c u => cases ho
      | fix h n u => cases ho
      | chk h c => cases ho
    | false =>
      rw [runQ_cons P ho] at h
      by_cases h1 : (wst P s b).2 ≠ 0
      · rw [if_pos h1] at h
        simp only [Prod.mk.injEq] at h
        exact absurd h.2.2 h1
      · rw [if_neg h1] at h
        obtain ⟨j, e1, e2, e3⟩ := run_okQ P r _ _ _ _ h
        refine ⟨j + 1, by omega, by rw [List.length_cons]; omega, ?_⟩
        rw [List.take_succ_cons, fldQ_cons, if_neg h1]; exact e3
set_option maxRecDepth 100000 in
/-- .. and whatever stands behind plays no part -/
theorem run_behindQ (P : WP) {l : List Int} {s : WS} {x : WX} (h : runQ P s l 0 = (x, l.length, 0)) (r : List Int) : runQ P s (l ++ r) 0 = (x, l.length, 0) := by
  obtain ⟨j, e1, e2, e3⟩ := run_okQ P l s 0 x _ h
  rw [show j = l.length from by omega, List.take_length] at e3
  rw [run_fldQ P l r s 0 _ e3, runQ_done, Nat.zero_add]
set_option maxRecDepth 100000 in
/-- a beginning of it has no error, and is not whole -/
theorem fld_beginQ (P : WP) {l : List Int} {s : WS} {x : WX} (h : runQ P s l 0 = (x, l.length, 0)) (j : Nat) (hj : j < l.length) : ∃ t, fldQ P s (l.take j) = some t ∧ t.over = false := by
  obtain ⟨i, e1, e2, e3⟩ := run_okQ P l s 0 x _ h
  rw [show i = l.length from by omega, List.take_length] at e3
  have hs : l = l.take j ++ l.drop j := (List.take_append_drop j l).symm
  rw [hs, fldQ_app] at e3
  cases hf : fldQ P s (l.take j) with
  | none => rw [hf] at e3; cases e3
  | some t =>
    rw [hf] at e3
    replace e3 : fldQ P t (l.drop j) = some (.done x) := e3
    refine ⟨t, rfl, ?_⟩
    cases ho : t.over with
    | false => rfl
    | true =>
      cases t with
      | done y =>
        rw [drop_head l j hj, fldQ_done] at e3; cases e3
      | head h l c u => cases ho
      | fix h n u => cases ho
      | chk h c => cases ho
set_option maxRecDepth 100000 in
theorem run_beginQ (P : WP) {l : List Int} {s : WS} {x : WX} (h : runQ P s l 0 = (x, l.length, 0)) (j : Nat) (hj : j < l.length) : runQ P s (l.take j) 0 = (wx0, 0, 3) := by
  obtain ⟨t, e1, e2⟩ := fld_beginQ P h j hj
  have := run_fldQ P (l.take j) [] s 0 t e1
  rw [List.append_nil] at this
  rw [this, runQ_nil P e2]
/-- a reader: where it stands, or behind an error -/
inductive WR where
  | ok (s : WS)
  | bad
def WR.over : WR → Bool | .ok s => s.over | .bad => true
/-- what Put makes, whether the request is whole with it, the error -/
def puS (P : WP) (r : WR) (b : Int) : WR := match r with | .bad => .bad | .ok s => if s.over = true then .ok s else if (wst P s b).2 ≠ 0 then .bad else .ok (wst P s b).1
def puE (P : WP) (r : WR) (b : Int) : Int := match r with | .bad => 20 | .ok s => (wst P s b).2
def puD (P : WP) (r : WR) (b : Int) : Bool := match r with | .bad => false | .ok s => decide (s.over = false ∧ (wst P s b).2 = 0 ∧ (wst P s b).1.over = true)
/-- what Take answers and makes -/
def tkX (r : WR) : WX := match r with | .ok (.done x) => x | _ => wx0
def tkB (r : WR) : Bool := match r with | .ok (.done _) => true | _ => false
def tkS (r : WR) : WR := match r with | .ok (.done _) => .ok ws0 | r => r
/-- nothing came -/
def idl (r : WR) : Bool := match r with | .ok (.head _ _ cnt _) => decide (cnt = 0) | _ => false
set_option maxRecDepth 100000 in
theorem wst_over {P : WP} {s : WS} (b : Int) (h : s.over = true) : wst P s b = (s, 20) := by
  cases s with
  | done x => rfl
  | head h l c u => cases h
  | fix h n u => cases h
  | chk h c => cases h
/-- what the document's own reader knows: its bytes, whether there was an error, whether a request is whole, which -/
structure QI (P : WP) (B : List Int) (bad done : Bool) (X : WX) (r : WR) : Prop where
  go : bad = false → done = false → ∃ s, r = .ok s ∧ s.over = false ∧ fldQ P ws0 B = some s
  er : bad = true → r = .bad ∧ B ≠ [] ∧ done = false
  dn : done = true → r = .ok (.done X) ∧ B ≠ [] ∧ bad = false
set_option maxRecDepth 100000 in
theorem QI.new (P : WP) : QI P [] false false wx0 (.ok ws0) := ⟨fun _ _ => ⟨ws0, rfl, rfl, rfl⟩, fun h => (by cases h), fun h => (by cases h)⟩
set_option maxRecDepth 100000 in
theorem QI.over {P : WP} {B : List Int} {bad done : Bool} {X : WX} {r : WR} (h : QI P B bad done X r) (ho : bad = true ∨ done = true) (b : Int) : puS P r b = r ∧ puE P r b = 20 ∧ puD P r b = false := by
  rcases ho with h1 | h1
  · obtain ⟨rfl, _, _⟩ := h.er h1; exact ⟨rfl, rfl, rfl⟩
  · obtain ⟨rfl, _, _⟩ := h.dn h1
    exact ⟨rfl, rfl, by simp [puD, WS.over]⟩
set_option maxRecDepth 100000 in
/-- a byte: just one of three -/
theorem QI.put {P : WP} {B : List Int} {X : WX} {r : WR} (h : QI P B false false X r) (b : Int) :
    (runQ P ws0 (B ++ [b]) 0).2.2 = (if puE P r b ≠ 0 then puE P r b else if puD P r b = true then 0 else 3) ∧
    (puE P r b ≠ 0 → QI P (B ++ [b]) true false X (puS P r b) ∧ puD P r b = false) ∧
    (puE P r b = 0 → puD P r b = true → QI P (B ++ [b]) false true (runQ P ws0 (B ++ [b]) 0).1 (puS P r b)) ∧
    (puE P r b = 0 → puD P r b = false → QI P (B ++ [b]) false false X (puS P r b)) := by
  obtain ⟨s, rfl, ho, hf⟩ := h.go rfl rfl
  have hr := run_oneQ P B b ws0 0 s hf ho
  have hne : B ++ [b] ≠ [] := by simp
  show _ = (if (wst P s b).2 ≠ 0 then (wst P s b).2 else _) ∧ ((wst P s b).2 ≠ 0 → _) ∧ ((wst P s b).2 = 0 → _) ∧ ((wst P s b).2 = 0 → _)
  have hS : ∀ e : (wst P s b).2 ≠ 0, puS P (.ok s) b = .bad := fun e => by simp only [puS]; rw [if_neg (by rw [ho]; simp), if_pos e]
  have hS0 : ∀ e : (wst P s b).2 = 0, puS P (.ok s) b = .ok (wst P s b).1 := fun e => by simp only [puS]; rw [if_neg (by rw [ho]; simp), if_neg (by rw [e]; simp)]
  by_cases h1 : (wst P s b).2 ≠ 0
  · rw [if_pos h1] at hr ⊢
    rw [hr]
    exact ⟨rfl, fun _ => ⟨⟨fun h => (by cases h), fun _ => ⟨hS h1, hne, rfl⟩, fun h => (by cases h)⟩, by simp only [puD]; simp [h1]⟩, fun h => absurd h h1, fun h => absurd h h1⟩
  · have h0 : (wst P s b).2 = 0 := by simpa using h1
    rw [if_neg h1] at hr ⊢
    have hf2 := fldQ_snoc hf h0
    rcases runQ_end P (wst P s b).1 (0 + B.length + 1) with ⟨g1, g2⟩ | ⟨y, g1, g2⟩
    · have hD : puD P (.ok s) b = false := by simp only [puD]; simp [g1]
      rw [hr, g2, hD, if_neg (by simp)]
      exact ⟨rfl, fun h => absurd h0 h, fun _ h => (by cases h), fun _ _ => ⟨fun _ _ => ⟨_, hS0 h0, g1, hf2⟩, fun h => (by cases h), fun h => (by cases h)⟩⟩
    · have hD : puD P (.ok s) b = true := by simp only [puD]; rw [decide_eq_true_iff]; exact ⟨ho, h0, by rw [g1]; rfl⟩
      rw [hr, g2, hD, if_pos rfl]
      exact ⟨rfl, fun h => absurd h0 h, fun _ _ => ⟨fun _ h => (by cases h), fun h => (by cases h), fun _ => ⟨by rw [hS0 h0, g1], hne, rfl⟩⟩, fun _ h => (by cases h)⟩
set_option maxRecDepth 100000 in
theorem QI.take {P : WP} {B : List Int} {bad done : Bool} {X : WX} {r : WR} (h : QI P B bad done X r) : tkB r = done ∧ (done = true → tkX r = X ∧ tkS r = .ok ws0) ∧ (done = false → tkX r = wx0 ∧ tkS r = r) := by
  cases done with
  | true =>
    obtain ⟨rfl, _, _⟩ := h.dn rfl
    exact ⟨rfl, fun _ => ⟨rfl, rfl⟩, fun h => (by cases h)⟩
  | false =>
    cases bad with
    | true => obtain ⟨rfl, _, _⟩ := h.er rfl; exact ⟨rfl, fun h => (by cases h), fun _ => ⟨rfl, rfl⟩⟩
    | false =>
      obtain ⟨s, rfl, ho, _⟩ := h.go rfl rfl
      cases s with
      | done x => cases ho
      | head h l c u => exact ⟨rfl, fun h => (by cases h), fun _ => ⟨rfl, rfl⟩⟩
      | fix h n u => exact ⟨rfl, fun h => (by cases h), fun _ => ⟨rfl, rfl⟩⟩
      | chk h c => exact ⟨rfl, fun h => (by cases h), fun _ => ⟨rfl, rfl⟩⟩
/-- how many bytes a head has had -/
def WS.cnt : WS → Option Nat | .head _ _ c _ => some c | _ => none
set_option maxRecDepth 100000 in
theorem eol_cnt (P : WP) (h : HD) (lines c : Nat) (l : List Int) (h0 : (eol P h lines c l).2 = 0) : (eol P h lines c l).1.cnt = some c ∨ (eol P h lines c l).1.cnt = none := by
  unfold eol at h0 ⊢
  by_cases h1 : lines = 0
  · rw [if_pos h1] at h0 ⊢
    cases hF : P.F l with
    | none => exact .inl rfl
    | some mt => exact .inl rfl
  · rw [if_neg h1] at h0 ⊢
    by_cases h2 : l = []
    · rw [if_pos h2]
      right
      unfold bgQ
      split
      · rfl
      · split <;> rfl
    · rw [if_neg h2]
      split <;> exact .inl rfl
set_option maxRecDepth 100000 in
theorem wst_cnt (P : WP) (s : WS) (b : Int) (h0 : (wst P s b).2 = 0) : (∀ c, s.cnt = some c → (wst P s b).1.cnt = some (c + 1) ∨ (wst P s b).1.cnt = none) ∧ (s.cnt = none → (wst P s b).1.cnt = none) := by
  cases s with
  | head h l c u =>
    refine ⟨fun c' e => ?_, fun e => by cases e⟩
    obtain rfl : c = c' := by simpa [WS.cnt] using e
    simp only [wst] at h0 ⊢
    by_cases h1 : 1024 ≤ c
    · rw [if_pos h1] at h0; simp at h0
    · rw [if_neg h1] at h0 ⊢
      by_cases h2 : bhd u = true ∧ b = 10
      · rw [if_pos h2] at h0 ⊢
        exact eol_cnt P h l (c + 1) _ h0
      · rw [if_neg h2] at h0 ⊢
        by_cases h3 : badB u b = true
        · rw [if_pos h3] at h0; simp at h0
        · rw [if_neg h3]; exact .inl rfl
  | fix h n u =>
    refine ⟨fun c' e => (by cases e), fun _ => ?_⟩
    simp only [wst]
    split <;> rfl
  | chk h c =>
    refine ⟨fun c' e => (by cases e), fun _ => ?_⟩
    simp only [wst]
    split
    · rfl
    · split <;> rfl
  | done x => simp [wst] at h0
set_option maxRecDepth 100000 in
theorem fld_cnt (P : WP) : ∀ (B : List Int) (s t : WS), fldQ P s B = some t → (∀ c, s.cnt = some c → t.cnt = some (c + B.length) ∨ t.cnt = none) ∧ (s.cnt = none → t.cnt = none)
  | [], s, t, h => by cases h; exact ⟨fun c e => .inl e, fun e => e⟩
  | b :: r, s, t, h => by
    rw [fldQ_cons] at h
    by_cases h1 : (wst P s b).2 ≠ 0
    · rw [if_pos h1] at h; cases h
    · rw [if_neg h1] at h
      obtain ⟨a1, a2⟩ := wst_cnt P s b (by simpa using h1)
      obtain ⟨b1, b2⟩ := fld_cnt P r _ t h
      refine ⟨fun c e => ?_, fun e => b2 (a2 e)⟩
      rcases a1 c e with g | g
      · rcases b1 _ g with k | k
        · exact .inl (by rw [k, List.length_cons]; congr 1; omega)
        · exact .inr k
      · exact .inr (b2 g)
set_option maxRecDepth 100000 in
/-- whether nothing came, by the document's own bytes -/
theorem QI.idle {P : WP} {B : List Int} {bad done : Bool} {X : WX} {r : WR} (h : QI P B bad done X r) : idl r = decide (B.length = 0) := by
  cases done with
  | true =>
    obtain ⟨rfl, hB, _⟩ := h.dn rfl
    cases B with
    | nil => exact absurd rfl hB
    | cons _ _ => simp [idl]
  | false =>
    cases bad with
    | true =>
      obtain ⟨rfl, hB, _⟩ := h.er rfl
      cases B with
      | nil => exact absurd rfl hB
      | cons _ _ => simp [idl]
    | false =>
      obtain ⟨s, rfl, ho, hf⟩ := h.go rfl rfl
      have hc := (fld_cnt P B ws0 s hf).1 0 rfl
      cases s with
      | done x => cases ho
      | head h l c u =>
        rcases hc with g | g
        · obtain rfl : c = B.length := by simpa [WS.cnt] using g
          rfl
        · cases g
      | fix h n u =>
        cases B with
        | nil => simp [fldQ, ws0] at hf
        | cons _ _ => simp [idl]
      | chk h c =>
        cases B with
        | nil => simp [fldQ, ws0] at hf
        | cons _ _ => simp [idl]
end Go.Proofs.YtpfijaojgeceeaaGreatDoor
namespace Go.Proofs.YtpfijaojgeceeaaGreatDoor
open Go.RowKit
set_option linter.unusedVariables false

/-- a number's digits -/
def decF : Nat → Nat → List Int
  | 0, _ => []
  | f + 1, n => if n < 10 then [48 + (n : Int)] else decF f (n / 10) ++ [48 + ((n % 10 : Nat) : Int)]
def decN (n : Nat) : List Int := decF (n + 1) n
set_option maxRecDepth 100000 in
theorem decF_enough : ∀ (f g n : Nat), n < f → n < g → decF f n = decF g n
  | 0, _, n, h, _ => by omega
  | _ + 1, 0, n, _, h => by omega
  | f + 1, g + 1, n, h1, h2 => by
    unfold decF
    by_cases h : n < 10
    · rw [if_pos h, if_pos h]
    · rw [if_neg h, if_neg h, decF_enough f g (n / 10) (by omega) (by omega)]
set_option maxRecDepth 100000 in
theorem decN_lt {n : Nat} (h : n < 10) : decN n = [48 + (n : Int)] := by unfold decN decF; rw [if_pos h]
set_option maxRecDepth 100000 in
theorem decN_ge {n : Nat} (h : ¬ n < 10) : decN n = decN (n / 10) ++ [48 + ((n % 10 : Nat) : Int)] := by
  show (if n < 10 then _ else _) = _
  rw [if_neg h]
  unfold decN
  rw [decF_enough n (n / 10 + 1) (n / 10) (by omega) (by omega)]
def dig (c : Int) : Bool := decide (48 ≤ c) && decide (c ≤ 57)
set_option maxRecDepth 100000 in
theorem decN_dig (n : Nat) : ∀ c ∈ decN n, dig c = true := by
  induction n using Nat.strongRecOn with
  | _ n ih =>
    intro c hc
    by_cases h : n < 10
    · rw [decN_lt h] at hc
      simp only [List.mem_cons, List.not_mem_nil, or_false] at hc
      rw [hc]; unfold dig; simp; omega
    · rw [decN_ge h] at hc
      rcases List.mem_append.1 hc with h1 | h1
      · exact ih (n / 10) (by omega) c h1
      · simp only [List.mem_cons, List.not_mem_nil, or_false] at h1
        rw [h1]; unfold dig; simp; omega
set_option maxRecDepth 100000 in
theorem decN_pos (n : Nat) : 1 ≤ (decN n).length := by
  by_cases h : n < 10
  · rw [decN_lt h]; simp
  · rw [decN_ge h]; simp
set_option maxRecDepth 100000 in
theorem decN_byt (n : Nat) : Byt (decN n) := fun c hc => by have := decN_dig n c hc; unfold dig at this; simp at this; omega
/-- what digits count -/
def valD (l : List Int) : Nat := l.foldl (fun a c => 10 * a + (c - 48).toNat) 0
set_option maxRecDepth 100000 in
theorem valD_snoc (l : List Int) (c : Int) : valD (l ++ [c]) = 10 * valD l + (c - 48).toNat := by unfold valD; rw [List.foldl_append]; rfl
set_option maxRecDepth 100000 in
theorem valD_decN (n : Nat) : valD (decN n) = n := by
  induction n using Nat.strongRecOn with
  | _ n ih =>
    by_cases h : n < 10
    · rw [decN_lt h]; unfold valD; simp; omega
    · rw [decN_ge h, valD_snoc, ih (n / 10) (by omega)]; omega
/-- which number a text is, if it is written so -/
def rdD (l : List Int) : Option Nat := if decN (valD l) = l then some (valD l) else none
set_option maxRecDepth 100000 in
theorem rdD_decN (n : Nat) : rdD (decN n) = some n := by unfold rdD; rw [valD_decN, if_pos rfl]
set_option maxRecDepth 100000 in
theorem rdD_some {l : List Int} {n : Nat} (h : rdD l = some n) : l = decN n := by
  unfold rdD at h
  split at h
  · rename_i h1; cases h; exact h1.symm
  · cases h
set_option maxRecDepth 100000 in
theorem decN_take (n : Nat) : ∀ i, 1 ≤ i → i ≤ (decN n).length → ∃ m, m ≤ n ∧ (decN n).take i = decN m := by
  induction n using Nat.strongRecOn with
  | _ n ih =>
    intro i h1 h2
    by_cases h : n < 10
    · rw [decN_lt h] at h2 ⊢
      simp at h2
      obtain rfl : i = 1 := by omega
      exact ⟨n, Nat.le_refl _, by rw [decN_lt h]; rfl⟩
    · by_cases h3 : i = (decN n).length
      · exact ⟨n, Nat.le_refl _, by rw [h3, List.take_length]⟩
      · rw [decN_ge h] at h2 h3 ⊢
        rw [List.length_append, List.length_cons, List.length_nil] at h2 h3
        obtain ⟨m, e1, e2⟩ := ih (n / 10) (by omega) i h1 (by omega)
        exact ⟨m, by omega, by rw [List.take_append_of_le_length (by omega)]; exact e2⟩
/-- all statuses -/
def cdsL : List Int := [200, 400, 401, 403, 404, 405, 409, 413, 422, 429, 503, 507]
/-- a status in words -/
def rsnL (c : Int) : List Int :=
  if c = 200 then [79, 75] else if c = 400 then [66, 97, 100, 32, 82, 101, 113, 117, 101, 115, 116] else if c = 401 then [85, 110, 97, 117, 116, 104, 111, 114, 105, 122, 101, 100] else if c = 403 then [70, 111, 114, 98, 105, 100, 100, 101, 110] else if c = 404 then [78, 111, 116, 32, 70, 111, 117, 110, 100] else if c = 405 then [77, 101, 116, 104, 111, 100, 32, 78, 111, 116, 32, 65, 108, 108, 111, 119, 101, 100] else if c = 409 then [67, 111, 110, 102, 108, 105, 99, 116] else if c = 413 then [67, 111, 110, 116, 101, 110, 116, 32, 84, 111, 111, 32, 76, 97, 114, 103, 101] else if c = 422 then [85, 110, 112, 114, 111, 99, 101, 115, 115, 97, 98, 108, 101, 32, 67, 111, 110, 116, 101, 110, 116] else if c = 429 then [84, 111, 111, 32, 77, 97, 110, 121, 32, 82, 101, 113, 117, 101, 115, 116, 115] else if c = 503 then [83, 101, 114, 118, 105, 99, 101, 32, 85, 110, 97, 118, 97, 105, 108, 97, 98, 108, 101] else if c = 507 then [73, 110, 115, 117, 102, 102, 105, 99, 105, 101, 110, 116, 32, 83, 116, 111, 114, 97, 103, 101] else []
set_option maxRecDepth 100000 in
theorem rsn_iff (c : Int) : rsnL c ≠ [] ↔ c ∈ cdsL := by
  constructor
  · intro h
    refine Classical.byContradiction fun hn => h ?_
    unfold cdsL at hn
    simp only [List.mem_cons, List.not_mem_nil, or_false, not_or] at hn
    obtain ⟨h1, h2, h3, h4, h5, h6, h7, h8, h9, h10, h11, h12⟩ := hn
    unfold rsnL
    rw [if_neg h1, if_neg h2, if_neg h3, if_neg h4, if_neg h5, if_neg h6, if_neg h7, if_neg h8, if_neg h9, if_neg h10, if_neg h11, if_neg h12]
  · intro h
    unfold cdsL at h
    simp only [List.mem_cons, List.not_mem_nil, or_false] at h
    rcases h with rfl | rfl | rfl | rfl | rfl | rfl | rfl | rfl | rfl | rfl | rfl | rfl <;> decide
/-- what stands ahead of the number -/
def ledL (c : Int) : List Int := [72, 84, 84, 80, 47, 49, 46, 49, 32] ++ decN c.toNat ++ [32] ++ rsnL c ++ [13, 10, 67, 111, 110, 116, 101, 110, 116, 45, 76, 101, 110, 103, 116, 104, 58, 32]
/-- an answer's bytes -/
def ansL (c : Int) (b : List Int) : List Int := ledL c ++ (decN b.length ++ ([13, 10, 13, 10] ++ b))
def anE (c : Int) (n : Nat) : Int := if c ∉ cdsL then 2 else if 8192 < n then 5 else 0
def anL (c : Int) (b : List Int) : List Int := if anE c b.length = 0 then ansL c b else []
/-- how many digits stand ahead -/
def digs : List Int → Nat
  | [] => 0
  | c :: r => if dig c = true then digs r + 1 else 0
/-- a number, the empty line, so many bytes -/
def cntR (b : List Int) : List Int × Nat × Int :=
  match rdD (b.take (digs b)) with
  | none => ([], 0, 4)
  | some n => if 8192 < n then ([], 0, 4) else
    if (b.drop (digs b)).take 4 = [13, 10, 13, 10] then (if b.length < digs b + 4 + n then ([], 0, 3) else ((b.drop (digs b + 4)).take n, digs b + 4 + n, 0)) else
    if (b.drop (digs b)).take 4 = [13, 10, 13, 10].take (b.length - digs b) then ([], 0, 3) else ([], 0, 4)
/-- which answer bytes begin with: the status, the body, how many bytes, the error -/
def raF (b : List Int) : List Int → Bool → Int × List Int × Nat × Int
  | [], short => if short = true then (0, [], 0, 3) else (0, [], 0, 4)
  | c :: cs, short =>
    if b.length ≤ (ledL c).length then raF b cs (short || decide ((ledL c).take b.length = b)) else
    if b.take (ledL c).length ≠ ledL c then raF b cs short else
    if (cntR (b.drop (ledL c).length)).2.2 ≠ 0 then (0, [], 0, (cntR (b.drop (ledL c).length)).2.2) else (c, (cntR (b.drop (ledL c).length)).1, (ledL c).length + (cntR (b.drop (ledL c).length)).2.1, 0)
def raR (b : List Int) : Int × List Int × Nat × Int := raF b cdsL false
set_option maxRecDepth 100000 in
theorem digs_app {l : List Int} (h : ∀ c ∈ l, dig c = true) (r : List Int) : digs (l ++ r) = l.length + digs r := by
  induction l with
  | nil => simp
  | cons c t ih =>
    rw [List.cons_append]
    show (if dig c = true then _ else _) = _
    rw [if_pos (h c (by simp)), ih (fun d hd => h d (by simp [hd])), List.length_cons]; omega
set_option maxRecDepth 100000 in
theorem digs_crlf (r : List Int) : digs (13 :: r) = 0 := by show (if dig 13 = true then _ else _) = _; rw [if_neg (by decide)]
set_option maxRecDepth 100000 in
/-- a number and the empty line, whole or in part, and so many bytes -/
theorem cnt_ok (b l : List Int) (hb : b.length ≤ 8192) : cntR (decN b.length ++ ([13, 10, 13, 10] ++ b) ++ l) = (b, (decN b.length).length + 4 + b.length, 0) := by
  have hd : digs (decN b.length ++ ([13, 10, 13, 10] ++ b) ++ l) = (decN b.length).length := by
    rw [List.append_assoc, digs_app (decN_dig _), List.append_assoc, List.cons_append, digs_crlf]; rfl
  unfold cntR
  rw [hd, List.append_assoc, List.take_left, rdD_decN]
  simp only []
  rw [if_neg (by omega), List.drop_left, if_pos (by simp)]
  rw [if_neg (by simp; omega)]
  congr 1
  rw [← List.drop_drop, List.drop_left]
  simp
set_option maxRecDepth 100000 in
theorem cnt_short (b : List Int) (hb : b.length ≤ 8192) (j : Nat) (h1 : 1 ≤ j) (hj : j < (decN b.length ++ ([13, 10, 13, 10] ++ b)).length) : (cntR ((decN b.length ++ ([13, 10, 13, 10] ++ b)).take j)).2.2 = 3 := by
  have hp := decN_pos b.length
  rw [List.length_append, List.length_append] at hj
  simp only [List.length_cons, List.length_nil] at hj
  by_cases h2 : j ≤ (decN b.length).length
  · rw [List.take_append_of_le_length h2]
    obtain ⟨m, e1, e2⟩ := decN_take b.length j h1 h2
    rw [e2]
    have hd : digs (decN m) = (decN m).length := by have := digs_app (decN_dig m) []; rw [List.append_nil] at this; rw [this]; rfl
    unfold cntR
    rw [hd, List.take_length, rdD_decN]
    simp only []
    rw [if_neg (by omega), List.drop_length, if_neg (by simp), if_pos (by simp)]
  · obtain ⟨i, rfl⟩ : ∃ i, j = (decN b.length).length + i := ⟨j - (decN b.length).length, by omega⟩
    rw [List.take_length_add_append]
    have hi : 1 ≤ i := by omega
    have e0 : ([13, 10, 13, 10] ++ b).take i = 13 :: ([10, 13, 10] ++ b).take (i - 1) := by
      obtain ⟨k, rfl⟩ : ∃ k, i = k + 1 := ⟨i - 1, by omega⟩
      rfl
    have hd : digs (decN b.length ++ ([13, 10, 13, 10] ++ b).take i) = (decN b.length).length := by
      rw [e0, digs_app (decN_dig _), digs_crlf]; rfl
    unfold cntR
    rw [hd, List.take_left, rdD_decN]
    simp only []
    rw [if_neg (by omega), List.drop_left, List.take_take]
    by_cases h4 : 4 ≤ i
    · rw [Nat.min_eq_left h4, if_pos (by simp), if_pos (by rw [List.length_append, List.length_take, List.length_append]; simp only [List.length_cons, List.length_nil]; omega)]
    · have e1 : ([13, 10, 13, 10] ++ b).take (min 4 i) = [13, 10, 13, 10].take i := by rw [Nat.min_eq_right (by omega), List.take_append_of_le_length (by simp; omega)]
      rw [e1, if_neg (fun h => by have := congrArg List.length h; rw [List.length_take] at this; simp at this; omega), if_pos (by rw [List.length_append, List.length_take, List.length_append]; congr 1; simp only [List.length_cons, List.length_nil]; omega)]
/-- twelve bytes tell the status -/
def ld12 (c : Int) : List Int := (ledL c).take 12
set_option maxRecDepth 100000 in
theorem led_long : ∀ c ∈ cdsL, 12 ≤ (ledL c).length := by decide
set_option maxRecDepth 100000 in
theorem led_inj : ∀ c ∈ cdsL, ∀ d ∈ cdsL, ld12 c = ld12 d → c = d := by decide +kernel
set_option maxRecDepth 100000 in
/-- another status is passed by -/
theorem ra_pass {b : List Int} {c d : Int} (hc : c ∈ cdsL) (hd : d ∈ cdsL) (hne : d ≠ c) (hb : b.take 12 = ld12 c) (cs : List Int) (short : Bool) : raF b (d :: cs) short = raF b cs short := by
  have hn : ld12 d ≠ b.take 12 := fun e => hne (led_inj d hd c hc (by rw [e, hb]))
  have h12 := led_long d hd
  have hbl : 12 ≤ b.length := by
    have h1 := congrArg List.length hb
    unfold ld12 at h1
    rw [List.length_take, List.length_take] at h1
    have := led_long c hc
    omega
  show (if b.length ≤ (ledL d).length then _ else _) = _
  split
  · rename_i h
    have : decide ((ledL d).take b.length = b) = false := by
      rw [decide_eq_false_iff_not]
      intro e
      apply hn
      unfold ld12
      rw [← e, List.take_take, Nat.min_eq_left hbl]
    rw [this, Bool.or_false]
  · rw [if_pos (fun e => by
      apply hn
      unfold ld12
      rw [← e, List.take_take, Nat.min_eq_left h12])]
set_option maxRecDepth 100000 in
theorem ra_at {b : List Int} {c : Int} (hc : c ∈ cdsL) (hb : b.take 12 = ld12 c) (hl : (ledL c).length < b.length) (hq : b.take (ledL c).length = ledL c) : ∀ (cs : List Int) (short : Bool), (∀ d ∈ cs, d ∈ cdsL) → c ∈ cs → raF b cs short = if (cntR (b.drop (ledL c).length)).2.2 ≠ 0 then (0, [], 0, (cntR (b.drop (ledL c).length)).2.2) else (c, (cntR (b.drop (ledL c).length)).1, (ledL c).length + (cntR (b.drop (ledL c).length)).2.1, 0)
  | [], _, _, h => by cases h
  | d :: cs, short, hds, hin => by
    by_cases e : d = c
    · subst e
      show (if b.length ≤ (ledL d).length then _ else _) = _
      rw [if_neg (by omega), if_neg (by rw [hq]; simp)]
    · rw [ra_pass hc (hds d (by simp)) e hb]
      exact ra_at hc hb hl hq cs short (fun x hx => hds x (by simp [hx])) (by
        rcases List.mem_cons.1 hin with h | h
        · exact absurd h.symm e
        · exact h)
set_option maxRecDepth 100000 in
/-- what is written is read, whatever stands behind -/
theorem ra_ok (c : Int) (b l : List Int) (hc : c ∈ cdsL) (hb : b.length ≤ 8192) : raR (ansL c b ++ l) = (c, b, (ansL c b).length, 0) := by
  have hp := decN_pos b.length
  have e1 : ansL c b ++ l = ledL c ++ (decN b.length ++ ([13, 10, 13, 10] ++ b) ++ l) := by unfold ansL; simp
  have h12 := led_long c hc
  unfold raR
  rw [e1, ra_at hc (by unfold ld12; rw [List.take_append_of_le_length h12]) (by rw [List.length_append, List.length_append, List.length_append]; omega) List.take_left cdsL false (fun d h => h) hc, List.drop_left, cnt_ok b l hb, if_neg (by simp)]
  have e2 : (ansL c b).length = (ledL c).length + ((decN b.length).length + 4 + b.length) := by unfold ansL; simp only [List.length_append, List.length_cons, List.length_nil]; omega
  rw [e2]
set_option maxRecDepth 100000 in
/-- where no status goes on: whether one begins with it -/
theorem ra_short (b : List Int) : ∀ (cs : List Int) (short : Bool), (∀ d ∈ cs, (ledL d).length < b.length → b.take (ledL d).length ≠ ledL d) → raF b cs short = if short = true ∨ ∃ d ∈ cs, b.length ≤ (ledL d).length ∧ (ledL d).take b.length = b then (0, [], 0, 3) else (0, [], 0, 4)
  | [], short, _ => by
    show (if short = true then _ else _) = _
    simp
  | d :: cs, short, h => by
    have ih := fun sh => ra_short b cs sh (fun x hx => h x (by simp [hx]))
    show (if b.length ≤ (ledL d).length then _ else _) = _
    by_cases h1 : b.length ≤ (ledL d).length
    · rw [if_pos h1, ih]
      congr 1
      simp only [Bool.or_eq_true, decide_eq_true_eq, List.mem_cons, exists_eq_or_imp, eq_iff_iff]
      constructor
      · rintro ((h2 | h2) | h2)
        · exact .inl h2
        · exact .inr (.inl ⟨h1, h2⟩)
        · exact .inr (.inr h2)
      · rintro (h2 | ⟨_, h2⟩ | h2)
        · exact .inl (.inl h2)
        · exact .inl (.inr h2)
        · exact .inr h2
    · rw [if_neg h1, if_pos (h d (by simp) (by omega)), ih]
      congr 1
      simp only [List.mem_cons, exists_eq_or_imp, eq_iff_iff]
      constructor
      · rintro (h2 | h2)
        · exact .inl h2
        · exact .inr (.inr h2)
      · rintro (h2 | ⟨h2, _⟩ | h2)
        · exact .inl h2
        · exact absurd h2 h1
        · exact .inr h2
set_option maxRecDepth 100000 in
/-- a beginning ends too early -/
theorem ra_begin (c : Int) (b : List Int) (hc : c ∈ cdsL) (hb : b.length ≤ 8192) (j : Nat) (hj : j < (ansL c b).length) : raR ((ansL c b).take j) = (0, [], 0, 3) := by
  have h12 := led_long c hc
  by_cases h1 : j ≤ (ledL c).length
  · have e : (ansL c b).take j = (ledL c).take j := by unfold ansL; exact List.take_append_of_le_length h1
    have hl : ((ledL c).take j).length = j := by rw [List.length_take]; omega
    rw [e]
    unfold raR
    rw [ra_short _ _ _ (fun d hd hlt he => by
      rw [hl] at hlt
      have hd12 := led_long d hd
      rw [List.take_take] at he
      have h2 : ld12 d = ld12 c := by
        unfold ld12
        rw [← he, List.take_take]
        congr 1
        omega
      have h3 := led_inj d hd c hc h2
      rw [h3] at hlt
      omega), if_pos (.inr ⟨c, hc, by rw [hl]; exact h1, by rw [hl]⟩)]
  · obtain ⟨i, rfl⟩ : ∃ i, j = (ledL c).length + i := ⟨j - (ledL c).length, by omega⟩
    have e : (ansL c b).take ((ledL c).length + i) = ledL c ++ (decN b.length ++ ([13, 10, 13, 10] ++ b)).take i := by unfold ansL; exact List.take_length_add_append i
    have hi : i < (decN b.length ++ ([13, 10, 13, 10] ++ b)).length := by unfold ansL at hj; rw [List.length_append] at hj; omega
    have hil : ((decN b.length ++ ([13, 10, 13, 10] ++ b)).take i).length = i := by rw [List.length_take]; omega
    rw [e]
    unfold raR
    rw [ra_at hc (by unfold ld12; rw [List.take_append_of_le_length h12]) (by rw [List.length_append, hil]; omega) List.take_left cdsL false (fun d h => h) hc, List.drop_left, if_pos (by rw [cnt_short b hb i (by omega) hi]; simp), cnt_short b hb i (by omega) hi]
end Go.Proofs.YtpfijaojgeceeaaGreatDoor
