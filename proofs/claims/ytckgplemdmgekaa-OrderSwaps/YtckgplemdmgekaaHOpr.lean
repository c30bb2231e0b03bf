/- Which operations a history has. No walk. -/
import Derived.Test.YtckgplemdmgekaaHistMath
namespace Go.Proofs.Ytckgplemdmgekaa
open Go.RowKit
set_option linter.unusedVariables false

/-- an operation -/
structure Opr where
  c : Int
  o : Int
  a : Int
  d : Bool
  r : Int
  f : Int
  t : Int
def op0 : Opr := ⟨0, 0, 0, false, 0, 0, 0⟩
def newO (x : Ev) (i : Nat) : Opr := ⟨x.c, x.o, x.v, false, 0, i, -1⟩
def endO (o : Opr) (v : Int) (i : Nat) : Opr := ⟨o.c, o.o, o.a, true, v, o.f, i⟩
def set1 (x : Ev) (i : Nat) (o : Opr) : Opr := if o.c = x.c ∧ o.d = false then endO o x.v i else o
def setO (O : List Opr) (x : Ev) (i : Nat) : List Opr := O.map (set1 x i)
def stpO (O : List Opr) (i : Nat) (x : Ev) : List Opr := if x.k = true then O ++ [newO x i] else setO O x i
/-- event by event -/
def opsF : List Opr → Nat → List Ev → List Opr
  | O, _, [] => O
  | O, i, x :: t => opsF (stpO O i x) (i + 1) t
def opsL (l : List Ev) : List Opr := opsF [] 0 l
set_option maxRecDepth 100000 in
theorem opsF_append : ∀ (a b : List Ev) (O : List Opr) (i : Nat), opsF O i (a ++ b) = opsF (opsF O i a) (i + a.length) b
  | [], b, O, i => by simp [opsF]
  | x :: t, b, O, i => by
    show opsF (stpO O i x) (i + 1) (t ++ b) = opsF (opsF (stpO O i x) (i + 1) t) _ b
    rw [opsF_append t b (stpO O i x) (i + 1), List.length_cons]
    congr 1
    omega
set_option maxRecDepth 100000 in
theorem opsL_snoc (l : List Ev) (i : Nat) (h : i < l.length) : opsL (l.take (i + 1)) = stpO (opsL (l.take i)) i (l.getD i ev0) := by
  unfold opsL
  rw [take_snoc l i h, opsF_append, List.length_take, Nat.zero_add, Nat.min_eq_left (by omega)]
  rfl
/-- a client's next event -/
def nxtA : List Ev → Nat → Int → Option (Nat × Int)
  | [], _, _ => none
  | x :: t, i, c => if x.c = c then some (i, x.v) else nxtA t (i + 1) c
def finP (o : Opr) : Option (Nat × Int) → Opr
  | none => o
  | some p => endO o p.2 p.1
def finO (t : List Ev) (i : Nat) (o : Opr) : Opr := if o.d = true then o else finP o (nxtA t i o.c)
/-- of each call its client's next event -/
def refO : List Ev → Nat → List Opr
  | [], _ => []
  | x :: t, i => if x.k = true then finO t (i + 1) (newO x i) :: refO t (i + 1) else refO t (i + 1)
set_option maxRecDepth 100000 in
theorem finO_done {t : List Ev} {i : Nat} {o : Opr} (h : o.d = true) : finO t i o = o := by unfold finO; rw [if_pos h]
set_option maxRecDepth 100000 in
theorem finO_open {t : List Ev} {i : Nat} {o : Opr} (h : o.d = false) : finO t i o = finP o (nxtA t i o.c) := by unfold finO; rw [if_neg (by rw [h]; decide)]
set_option maxRecDepth 100000 in
theorem finO_nil (i : Nat) (o : Opr) : finO [] i o = o := by
  unfold finO; split <;> rfl
set_option maxRecDepth 100000 in
theorem finO_other {x : Ev} {t : List Ev} {i : Nat} {o : Opr} (h : o.d = false → x.c ≠ o.c) : finO (x :: t) i o = finO t (i + 1) o := by
  cases hd : o.d with
  | true => rw [finO_done hd, finO_done hd]
  | false =>
    rw [finO_open hd, finO_open hd]
    show finP o (if x.c = o.c then _ else _) = _
    rw [if_neg (h hd)]
set_option maxRecDepth 100000 in
theorem ops_ref : ∀ (t : List Ev) (O : List Opr) (W : Int → Bool) (n i : Nat), (chkF W n i t).2 = 0 → (∀ o ∈ O, o.d = false → W o.c = true) → opsF O i t = O.map (finO t i) ++ refO t i
  | [], O, W, n, i, _, _ => by
    show O = _
    have : O.map (finO [] i) = O := by
      conv => rhs; rw [← List.map_id O]
      exact List.map_congr_left fun o _ => finO_nil i o
    rw [this]; simp [refO]
  | x :: t, O, W, n, i, h, hO => by
    unfold chkF at h
    by_cases he : stpE W n x ≠ 0
    · rw [if_pos he] at h; exact absurd h he
    · rw [if_neg he] at h
      obtain ⟨hcan, _, hw⟩ := stpE_zero (Classical.byContradiction he)
      show opsF (stpO O i x) (i + 1) t = _ ++ (if x.k = true then _ else _)
      unfold stpO
      by_cases hk : x.k = true
      · rw [if_pos hk, if_pos hk]
        have hW : W x.c = false := by
          cases hwx : W x.c with
          | false => rfl
          | true => rw [hwx, hk] at hw; exact absurd rfl hw
        have hne : ∀ o ∈ O, o.d = false → x.c ≠ o.c := fun o ho hd e => by have := hO o ho hd; rw [← e, hW] at this; cases this
        rw [ops_ref t (O ++ [newO x i]) (updW W x) (cntK n x) (i + 1) h ?_]
        · rw [List.map_append, List.append_assoc]
          congr 1
          exact List.map_congr_left fun o ho => (finO_other (hne o ho)).symm
        · intro o ho hd
          unfold updW
          rcases List.mem_append.1 ho with h1 | h1
          · rw [if_neg (fun e => hne o h1 hd e.symm)]; exact hO o h1 hd
          · simp only [List.mem_cons, List.not_mem_nil, or_false] at h1
            subst h1
            show (if x.c = x.c then x.k else _) = true
            rw [if_pos rfl, hk]
      · rw [if_neg hk, if_neg hk]
        rw [ops_ref t (setO O x i) (updW W x) (cntK n x) (i + 1) h ?_]
        · unfold setO
          rw [List.map_map]
          congr 1
          refine List.map_congr_left fun o ho => ?_
          show finO t (i + 1) (set1 x i o) = _
          unfold set1
          by_cases hc : o.c = x.c ∧ o.d = false
          · rw [if_pos hc, finO_done rfl, finO_open hc.2]
            show _ = finP o (if x.c = o.c then _ else _)
            rw [if_pos hc.1.symm]; rfl
          · rw [if_neg hc]
            exact (finO_other (fun hd e => hc ⟨e.symm, hd⟩)).symm
        · intro o ho hd
          unfold setO at ho
          obtain ⟨p, hp, rfl⟩ := List.mem_map.1 ho
          unfold set1 at hd ⊢
          by_cases hc : p.c = x.c ∧ p.d = false
          · rw [if_pos hc] at hd; cases hd
          · rw [if_neg hc] at hd ⊢
            unfold updW
            rw [if_neg (fun e => hc ⟨e, hd⟩)]
            exact hO p hp hd
set_option maxRecDepth 100000 in
/-- a history's operations: the same by both ways -/
theorem ops_eq {l : List Ev} (h : His l) : opsL l = refO l 0 := by
  unfold opsL
  rw [ops_ref l [] nobW 0 0 h (fun o ho => by cases ho)]
  rfl
/-- how often a place is named -/
def sn : List Opr → Int → Nat
  | [], _ => 0
  | o :: O, j => (if o.f = j then 1 else 0) + (if o.d = true ∧ o.t = j then 1 else 0) + sn O j
/-- how many operations of a client are open -/
def opC : List Opr → Int → Nat
  | [], _ => 0
  | o :: O, c => (if o.d = false ∧ o.c = c then 1 else 0) + opC O c
set_option maxRecDepth 100000 in
theorem sn_append : ∀ (A B : List Opr) (j : Int), sn (A ++ B) j = sn A j + sn B j
  | [], B, j => by simp [sn]
  | o :: A, B, j => by
    rw [List.cons_append]
    show _ + sn (A ++ B) j = _ + sn A j + sn B j
    rw [sn_append A B j]; omega
set_option maxRecDepth 100000 in
theorem opC_append : ∀ (A B : List Opr) (c : Int), opC (A ++ B) c = opC A c + opC B c
  | [], B, c => by simp [opC]
  | o :: A, B, c => by
    rw [List.cons_append]
    show _ + opC (A ++ B) c = _ + opC A c + opC B c
    rw [opC_append A B c]; omega
set_option maxRecDepth 100000 in
theorem sn_zero {j : Int} : ∀ {O : List Opr}, (∀ o ∈ O, o.f ≠ j ∧ (o.d = true → o.t ≠ j)) → sn O j = 0
  | [], _ => rfl
  | o :: O, h => by
    have h1 := h o (by simp)
    show _ + _ + sn O j = 0
    rw [sn_zero (fun p hp => h p (by simp [hp])), if_neg h1.1, if_neg (fun k => h1.2 k.1 k.2)]
set_option maxRecDepth 100000 in
theorem opC_zero {c : Int} : ∀ {O : List Opr}, opC O c = 0 → ∀ o ∈ O, o.c = c → o.d = true
  | [], _, o, ho, _ => by cases ho
  | p :: O, h, o, ho, hc => by
    have h1 : (if p.d = false ∧ p.c = c then 1 else 0) + opC O c = 0 := h
    rcases List.mem_cons.1 ho with e | ho
    · subst e
      cases hd : o.d with
      | true => rfl
      | false => rw [if_pos ⟨hd, hc⟩] at h1; omega
    · exact opC_zero (by omega) o ho hc
set_option maxRecDepth 100000 in
theorem sn_set {x : Ev} {i : Nat} {j : Int} (hj : j ≠ (i : Int)) : ∀ {O : List Opr}, sn (setO O x i) j = sn O j
  | [] => rfl
  | o :: O => by
    have ih := sn_set (x := x) (i := i) hj (O := O)
    show sn (set1 x i o :: setO O x i) j = _
    show _ + _ + sn (setO O x i) j = _ + _ + sn O j
    rw [ih]
    unfold set1
    by_cases hc : o.c = x.c ∧ o.d = false
    · rw [if_pos hc]
      rw [if_neg (show ¬ ((endO o x.v i).d = true ∧ (endO o x.v i).t = j) from fun h => hj h.2.symm), if_neg (show ¬ (o.d = true ∧ o.t = j) from fun h => by rw [hc.2] at h; cases h.1)]
      rfl
    · rw [if_neg hc]
set_option maxRecDepth 100000 in
/-- the place of an answer is named once by each open operation of its client -/
theorem sn_now {x : Ev} {i : Nat} : ∀ {O : List Opr}, (∀ o ∈ O, o.f ≠ (i : Int) ∧ (o.d = true → o.t ≠ (i : Int))) → sn (setO O x i) i = opC O x.c
  | [], _ => rfl
  | o :: O, h => by
    have ih := sn_now (x := x) (O := O) (fun p hp => h p (by simp [hp]))
    have h1 := h o (by simp)
    show _ + _ + sn (setO O x i) i = _ + opC O x.c
    rw [ih]
    unfold set1
    by_cases hc : o.c = x.c ∧ o.d = false
    · rw [if_pos hc, if_pos (show o.d = false ∧ o.c = x.c from ⟨hc.2, hc.1⟩), if_neg (show ¬ (endO o x.v i).f = (i : Int) from h1.1), if_pos (show (endO o x.v i).d = true ∧ (endO o x.v i).t = (i : Int) from ⟨rfl, rfl⟩)]
    · rw [if_neg hc, if_neg (show ¬ (o.d = false ∧ o.c = x.c) from fun k => hc ⟨k.2, k.1⟩), if_neg h1.1, if_neg (fun k => h1.2 k.1 k.2)]
set_option maxRecDepth 100000 in
theorem opC_set {x : Ev} {i : Nat} (c : Int) : ∀ {O : List Opr}, opC (setO O x i) c = if c = x.c then 0 else opC O c
  | [] => by show 0 = _; split <;> rfl
  | o :: O => by
    have ih := opC_set (x := x) (i := i) c (O := O)
    show _ + opC (setO O x i) c = _
    rw [ih]
    unfold set1
    by_cases hcx : c = x.c
    · rw [if_pos hcx, if_pos hcx]
      by_cases hc : o.c = x.c ∧ o.d = false
      · rw [if_pos hc, if_neg (by rintro ⟨h, _⟩; cases h)]
      · rw [if_neg hc, if_neg (fun k => hc ⟨k.2.trans hcx, k.1⟩)]
    · rw [if_neg hcx, if_neg hcx]
      show _ = (if o.d = false ∧ o.c = c then 1 else 0) + opC O c
      by_cases hc : o.c = x.c ∧ o.d = false
      · rw [if_pos hc, if_neg (by rintro ⟨h, _⟩; cases h), if_neg (fun k => hcx (k.2.symm.trans hc.1))]
      · rw [if_neg hc]
/-- what holds of the operations of a beginning -/
structure OInv (l : List Ev) (n : Nat) (O : List Opr) : Prop where
  frm : ∀ o ∈ O, ∃ j : Nat, o.f = (j : Int) ∧ j < n ∧ l.getD j ev0 = ⟨o.c, true, o.o, o.a⟩
  inc : O.Pairwise fun a b => a.f < b.f
  don : ∀ o ∈ O, o.d = true → o.f < o.t ∧ ∃ j : Nat, o.t = (j : Int) ∧ j < n ∧ l.getD j ev0 = ⟨o.c, false, 0, o.r⟩
  opn : ∀ o ∈ O, o.d = false → o.t = -1 ∧ o.r = 0
  one : ∀ j : Nat, j < n → sn O (j : Int) = 1
  bef : O.Pairwise fun a b => a.c = b.c → a.d = true ∧ a.t < b.f
  wai : ∀ c, opC O c = if wOf (l.take n) c = true then 1 else 0
set_option maxRecDepth 100000 in
theorem OInv.far {l : List Ev} {n : Nat} {O : List Opr} (h : OInv l n O) : ∀ o ∈ O, o.f ≠ (n : Int) ∧ (o.d = true → o.t ≠ (n : Int)) := fun o ho => by
  obtain ⟨j, e, hj, _⟩ := h.frm o ho
  refine ⟨by omega, fun hd => ?_⟩
  obtain ⟨_, j2, e2, hj2, _⟩ := h.don o ho hd
  omega
set_option maxRecDepth 100000 in
theorem set1_c (x : Ev) (i : Nat) (o : Opr) : (set1 x i o).c = o.c := by unfold set1; split <;> rfl
set_option maxRecDepth 100000 in
theorem set1_f (x : Ev) (i : Nat) (o : Opr) : (set1 x i o).f = o.f := by unfold set1; split <;> rfl
set_option maxRecDepth 100000 in
theorem OInv.step {l : List Ev} (hl : His l) {n : Nat} (hn : n < l.length) {O : List Opr} (h : OInv l n O) : OInv l (n + 1) (stpO O n (l.getD n ev0)) := by
  obtain ⟨hcan, _, hw⟩ := stpE_zero (hl.err n hn)
  have hcan2 := (canE_iff _).1 hcan
  have hW : wOf (l.take (n + 1)) = updW (wOf (l.take n)) (l.getD n ev0) := by rw [take_snoc l n hn, wOf_snoc]
  have hX : ∀ j, l.getD n ev0 = l.getD j ev0 → True := fun _ _ => trivial
  generalize hx : l.getD n ev0 = x at *
  unfold stpO
  by_cases hk : x.k = true
  · rw [if_pos hk]
    have hwf : wOf (l.take n) x.c = false := by
      cases hwx : wOf (l.take n) x.c with
      | false => rfl
      | true => rw [hwx, hk] at hw; exact absurd rfl hw
    have hnone : ∀ o ∈ O, o.c = x.c → o.d = true := opC_zero (by rw [h.wai, if_neg (by rw [hwf]; decide)])
    refine ⟨?_, ?_, ?_, ?_, ?_, ?_, ?_⟩
    · intro o ho
      rcases List.mem_append.1 ho with h1 | h1
      · obtain ⟨j, e, hj, hg⟩ := h.frm o h1; exact ⟨j, e, by omega, hg⟩
      · simp only [List.mem_cons, List.not_mem_nil, or_false] at h1
        subst h1
        exact ⟨n, rfl, by omega, by rw [hx]; show x = ⟨x.c, true, x.o, x.v⟩; rw [← hk]⟩
    · rw [List.pairwise_append]
      refine ⟨h.inc, by simp, fun a ha b hb => ?_⟩
      simp only [List.mem_cons, List.not_mem_nil, or_false] at hb
      subst hb
      obtain ⟨j, e, hj, _⟩ := h.frm a ha
      show a.f < (n : Int)
      omega
    · intro o ho hd
      rcases List.mem_append.1 ho with h1 | h1
      · obtain ⟨e0, j, e, hj, hg⟩ := h.don o h1 hd; exact ⟨e0, j, e, by omega, hg⟩
      · simp only [List.mem_cons, List.not_mem_nil, or_false] at h1
        subst h1
        cases hd
    · intro o ho hd
      rcases List.mem_append.1 ho with h1 | h1
      · exact h.opn o h1 hd
      · simp only [List.mem_cons, List.not_mem_nil, or_false] at h1
        subst h1
        exact ⟨rfl, rfl⟩
    · intro j hj
      rw [sn_append]
      have e1 : sn [newO x n] (j : Int) = if (n : Int) = (j : Int) then 1 else 0 := by
        show (if (n : Int) = (j : Int) then 1 else 0) + (if (newO x n).d = true ∧ (newO x n).t = (j : Int) then 1 else 0) + 0 = _
        rw [if_neg (show ¬ ((newO x n).d = true ∧ (newO x n).t = (j : Int)) from fun h => by cases h.1)]; simp
      rw [e1]
      by_cases e : j = n
      · subst e
        rw [sn_zero h.far, if_pos rfl]
      · rw [h.one j (by omega), if_neg (by omega)]
    · rw [List.pairwise_append]
      refine ⟨h.bef, by simp, fun a ha b hb hc => ?_⟩
      simp only [List.mem_cons, List.not_mem_nil, or_false] at hb
      subst hb
      have hd := hnone a ha hc
      obtain ⟨_, j, e, hj, _⟩ := h.don a ha hd
      refine ⟨hd, ?_⟩
      show a.t < (n : Int)
      omega
    · intro c
      rw [opC_append, hW, h.wai c]
      have e1 : opC [newO x n] c = if x.c = c then 1 else 0 := by
        show (if false = false ∧ x.c = c then 1 else 0) + 0 = _
        simp
      rw [e1]
      unfold updW
      by_cases e : c = x.c
      · subst e; rw [hwf, if_neg (by decide), if_pos rfl, if_pos rfl, if_pos hk]
      · rw [if_neg (show ¬ x.c = c from fun k => e k.symm), if_neg (show ¬ c = x.c from e)]; simp
  · rw [if_neg hk]
    have hkf : x.k = false := by cases hkx : x.k with
      | false => rfl
      | true => exact absurd hkx hk
    have hwt : wOf (l.take n) x.c = true := by
      cases hwx : wOf (l.take n) x.c with
      | true => rfl
      | false => rw [hwx, hkf] at hw; exact absurd rfl hw
    have ho0 : x.o = 0 := by have := hcan2.2; rw [if_neg hk] at this; exact this
    refine ⟨?_, ?_, ?_, ?_, ?_, ?_, ?_⟩
    · intro o ho
      obtain ⟨p, hp, rfl⟩ := List.mem_map.1 ho
      obtain ⟨j, e, hj, hg⟩ := h.frm p hp
      refine ⟨j, by rw [set1_f]; exact e, by omega, ?_⟩
      rw [hg]; unfold set1; split <;> rfl
    · refine List.pairwise_map.2 (h.inc.imp fun hab => ?_)
      rw [set1_f, set1_f]; exact hab
    · intro o ho hd
      obtain ⟨p, hp, rfl⟩ := List.mem_map.1 ho
      unfold set1 at hd ⊢
      by_cases hc : p.c = x.c ∧ p.d = false
      · rw [if_pos hc]
        obtain ⟨j, e, hj, _⟩ := h.frm p hp
        refine ⟨show p.f < (n : Int) by omega, n, rfl, by omega, ?_⟩
        rw [hx]
        show x = ⟨p.c, false, 0, x.v⟩
        rw [hc.1, ← hkf, ← ho0]
      · rw [if_neg hc] at hd ⊢
        obtain ⟨e0, j, e, hj, hg⟩ := h.don p hp hd
        exact ⟨e0, j, e, by omega, hg⟩
    · intro o ho hd
      obtain ⟨p, hp, rfl⟩ := List.mem_map.1 ho
      unfold set1 at hd ⊢
      by_cases hc : p.c = x.c ∧ p.d = false
      · rw [if_pos hc] at hd; cases hd
      · rw [if_neg hc] at hd ⊢; exact h.opn p hp hd
    · intro j hj
      by_cases e : j = n
      · subst e
        rw [sn_now h.far, h.wai, if_pos hwt]
      · rw [sn_set (by omega), h.one j (by omega)]
    · refine List.pairwise_map.2 (h.bef.imp fun hab hc => ?_)
      rw [set1_c, set1_c] at hc
      have h1 := hab hc
      have e1 : ∀ q : Opr, q.d = true → set1 x n q = q := fun q hq => by unfold set1; rw [if_neg (fun k => by rw [hq] at k; cases k.2)]
      rw [e1 _ h1.1, set1_f]
      exact h1
    · intro c
      rw [opC_set, hW, h.wai c]
      unfold updW
      by_cases e : c = x.c
      · rw [if_pos e, if_pos e, if_neg hk]
      · rw [if_neg e, if_neg e]
set_option maxRecDepth 100000 in
theorem ops_inv {l : List Ev} (hl : His l) : ∀ n, n ≤ l.length → OInv l n (opsL (l.take n))
  | 0, _ => ⟨fun o ho => (by cases ho), List.Pairwise.nil, fun o ho => (by cases ho), fun o ho => (by cases ho), fun j hj => absurd hj (Nat.not_lt_zero j), List.Pairwise.nil, fun c => rfl⟩
  | n + 1, hn => by rw [opsL_snoc l n hn]; exact (ops_inv hl n (by omega)).step hl hn
set_option maxRecDepth 100000 in
theorem ops_all {l : List Ev} (hl : His l) : OInv l l.length (opsL l) := by
  have := ops_inv hl l.length (Nat.le_refl _)
  rwa [List.take_length] at this
set_option maxRecDepth 100000 in
/-- operations that go on behind a beginning -/
theorem ops_on {l : List Ev} (hl : His l) (n : Nat) (hn : n ≤ l.length) : opsL l = (opsL (l.take n)).map (finO (l.drop n) n) ++ refO (l.drop n) n := by
  have hi := ops_inv hl n hn
  have e : opsL l = opsF (opsL (l.take n)) n (l.drop n) := by
    conv => lhs; rw [← List.take_append_drop n l]
    unfold opsL
    rw [opsF_append, List.length_take, Nat.zero_add, Nat.min_eq_left hn]
  rw [e]
  refine ops_ref (l.drop n) _ (wOf (l.take n)) (cOf (l.take n)) n ?_ ?_
  · have h1 : ∀ m, m ≤ l.length → chkR l m = (0, 0) := by
      intro m
      induction m with
      | zero => intro _; exact hl.chk
      | succ m ih => intro hm; rw [← chkR_next l m (by omega) (hl.err m (by omega))]; exact ih (by omega)
    have := h1 n hn
    unfold chkR at this
    rw [this]
  · intro o ho hd
    refine Classical.byContradiction fun hw => ?_
    have := opC_zero (c := o.c) (by rw [hi.wai, if_neg hw]) o ho rfl
    rw [hd] at this
    cases this
set_option maxRecDepth 100000 in
theorem nxtA_ge : ∀ (t : List Ev) (i : Nat) (c : Int) (p : Nat × Int), nxtA t i c = some p → i ≤ p.1
  | [], _, _, _, h => by cases h
  | x :: t, i, c, p, h => by
    unfold nxtA at h
    split at h
    · cases h; exact Nat.le_refl _
    · have := nxtA_ge t (i + 1) c p h; omega
set_option maxRecDepth 100000 in
theorem finO_f (t : List Ev) (i : Nat) (o : Opr) : (finO t i o).f = o.f := by
  unfold finO; split
  · rfl
  · cases nxtA t i o.c <;> rfl
set_option maxRecDepth 100000 in
theorem refO_from : ∀ (t : List Ev) (i : Nat), ∀ o ∈ refO t i, (i : Int) ≤ o.f
  | [], _, o, h => by cases h
  | x :: t, i, o, h => by
    unfold refO at h
    split at h
    · rcases List.mem_cons.1 h with e | h
      · rw [e, finO_f]; exact Int.le_refl _
      · have := refO_from t (i + 1) o h; omega
    · have := refO_from t (i + 1) o h; omega
/-- an operation without an answer that comes from a place on -/
def cutO (n : Nat) (o : Opr) : Opr := if (n : Int) ≤ o.t then ⟨o.c, o.o, o.a, false, 0, o.f, -1⟩ else o
set_option maxRecDepth 100000 in
theorem cut_fin {l : List Ev} {n : Nat} {O : List Opr} (h : OInv l n O) (t : List Ev) : ∀ o ∈ O, cutO n (finO t n o) = o := fun o ho => by
  cases hd : o.d with
  | true =>
    obtain ⟨_, j, e, hj, _⟩ := h.don o ho hd
    rw [finO_done hd]
    unfold cutO
    rw [if_neg (by omega)]
  | false =>
    obtain ⟨e1, e2⟩ := h.opn o ho hd
    rw [finO_open hd]
    cases hx : nxtA t n o.c with
    | none =>
      show cutO n o = o
      unfold cutO
      rw [if_neg (by omega)]
    | some p =>
      have hp := nxtA_ge _ _ _ _ hx
      show cutO n (endO o p.2 p.1) = o
      unfold cutO
      rw [if_pos (show (n : Int) ≤ (endO o p.2 p.1).t from (by show (n : Int) ≤ (p.1 : Int); omega))]
      show (⟨o.c, o.o, o.a, false, 0, o.f, -1⟩ : Opr) = o
      cases o
      simp only at hd e1 e2
      rw [hd, e1, e2]
/-- an operation is before another one -/
def befO (a b : Opr) : Bool := a.d && decide (a.t < b.f)
set_option maxRecDepth 100000 in
theorem bef_irr {a : Opr} (h : a.d = true → a.f < a.t) : befO a a = false := by
  unfold befO
  cases hd : a.d with
  | false => rfl
  | true => have := h hd; simp; omega
set_option maxRecDepth 100000 in
theorem bef_asym {a b : Opr} (ha : a.d = true → a.f < a.t) (hb : b.d = true → b.f < b.t) (h : befO a b = true) : befO b a = false := by
  unfold befO at h ⊢
  simp at h
  cases hd : b.d with
  | false => rfl
  | true => have := hb hd; have := ha h.1; simp; omega
set_option maxRecDepth 100000 in
theorem bef_trans {a b c : Opr} (hb : b.d = true → b.f < b.t) (h1 : befO a b = true) (h2 : befO b c = true) : befO a c = true := by
  unfold befO at h1 h2 ⊢
  simp at h1 h2 ⊢
  have := hb h2.1
  exact ⟨h1.1, by omega⟩
set_option maxRecDepth 100000 in
theorem opsF_len : ∀ (t : List Ev) (O : List Opr) (i : Nat), (opsF O i t).length = O.length + t.foldl cntK 0
  | [], O, _ => by simp [opsF]
  | x :: t, O, i => by
    have hc : ∀ (t : List Ev) (n : Nat), t.foldl cntK n = n + t.foldl cntK 0 := by
      intro t
      induction t with
      | nil => intro n; simp
      | cons y t ih => intro n; rw [List.foldl_cons, ih, List.foldl_cons, ih (cntK 0 y)]; unfold cntK; split <;> omega
    show (opsF (stpO O i x) (i + 1) t).length = _
    rw [opsF_len t, List.foldl_cons, hc t (cntK 0 x)]
    unfold stpO cntK
    split
    · rw [List.length_append]; simp; omega
    · unfold setO; rw [List.length_map]; omega
set_option maxRecDepth 100000 in
theorem ops_len (l : List Ev) : (opsL l).length = cOf l := by unfold opsL; rw [opsF_len]; simp [cOf]
set_option maxRecDepth 100000 in
theorem cOf_le (l : List Ev) (h : His l) : ∀ n, n ≤ l.length → cOf (l.take n) ≤ 64
  | 0, _ => by simp [cOf]
  | n + 1, hn => by
    have ih := cOf_le l h n (by omega)
    have hz := (stpE_zero (h.err n (by omega))).2.1
    rw [take_snoc l n (by omega), cOf_snoc]
    unfold cntK
    split
    · rename_i hk
      have : cOf (l.take n) ≠ 64 := fun e => hz ⟨hk, e⟩
      omega
    · exact ih
end Go.Proofs.Ytckgplemdmgekaa
