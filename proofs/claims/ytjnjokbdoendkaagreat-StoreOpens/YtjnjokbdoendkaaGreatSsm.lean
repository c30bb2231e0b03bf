/- Changes, their texts, and what a store holds: the plain mathematics. No walk. What a store holds: a map's entries, and a list by rising keys. The plain mathematics. No walk. -/
import Derived.Test.YtjnjokbdoendkaaGreatSva
import Derived.Test.YtjnjokbdoendkaaGreatBEq
namespace Go.Proofs.YtjnjokbdoendkaaGreat
open Go.RowKit
set_option linter.unusedVariables false

/-- a text's bytes -/
def strL (s : ByteArray) : List Int := s.data.toList.map (fun b => (b.toNat : Int))
set_option maxRecDepth 100000 in
theorem strL_length (s : ByteArray) : (strL s).length = s.size := by rw [strL, List.length_map]; rfl
set_option maxRecDepth 100000 in
theorem strL_byt (s : ByteArray) : Byt (strL s) := by
  intro c hc
  obtain ⟨b, _, rfl⟩ := List.mem_map.1 hc
  have := b.toNat_lt
  omega
set_option maxRecDepth 100000 in
theorem strOf_strL (s : ByteArray) : strOf (strL s) = s := by
  obtain ⟨d⟩ := s
  simp only [strOf, strL, List.map_map, ByteArray.mk.injEq]
  have e : ((fun c : Int => UInt8.ofNat c.toNat) ∘ fun b : UInt8 => (b.toNat : Int)) = id := by
    funext b
    simp
  rw [e]; simp
set_option maxRecDepth 100000 in
theorem strOf_size (l : List Int) : (strOf l).size = l.length := by simp [strOf, ByteArray.size]
set_option maxRecDepth 100000 in
theorem strL_strOf {l : List Int} (h : Byt l) : strL (strOf l) = l := strOf_inj (strL_byt _) h (strOf_strL _)
/-- a change -/
structure Chg where
  key : ByteArray
  del : Bool
  val : List Int
/-- is it a key -/
def kOk (s : ByteArray) : Bool := (strL s).all (fun c => decide (33 ≤ c) && decide (c ≤ 126)) && (decide (1 ≤ s.size) && decide (s.size ≤ 40))
/-- can a change be behind others -/
def chk1 (c : Chg) (p : List Chg) : Int :=
  if kOk c.key = false then 2 else if 4096 < c.val.length then 5 else if c.del = true ∧ 0 < c.val.length then 2 else if p.any (fun a => decide (a.key = c.key)) = true then 10 else 0
def chkF : List Chg → List Chg → Int
  | _, [] => 0
  | p, c :: t => if chk1 c p = 0 then chkF (p ++ [c]) t else chk1 c p
/-- can changes be -/
def chkL (l : List Chg) : Int := if l.length < 1 ∨ 16 < l.length then 2 else chkF [] l
/-- what is known of a change that can be -/
structure COk (c : Chg) : Prop where
  k1 : 1 ≤ c.key.size
  k2 : c.key.size ≤ 40
  v : c.val.length ≤ 4096
  d : c.del = true → c.val = []
set_option maxRecDepth 100000 in
theorem chk1_ok {c : Chg} {p : List Chg} (h : chk1 c p = 0) : COk c ∧ (∀ a ∈ p, a.key ≠ c.key) ∧ kOk c.key = true := by
  unfold chk1 at h
  split at h
  · simp at h
  · rename_i h1
    split at h
    · simp at h
    · rename_i h2
      split at h
      · simp at h
      · rename_i h3
        split at h
        · simp at h
        · rename_i h4
          have h1' : kOk c.key = true := by cases hh : kOk c.key; exact absurd hh h1; rfl
          refine ⟨⟨?_, ?_, by omega, fun hd => ?_⟩, fun a ha e => h4 (List.any_eq_true.2 ⟨a, ha, by simp [e]⟩), h1'⟩
          · simp [kOk] at h1'; omega
          · simp [kOk] at h1'; omega
          · cases hv : c.val with
            | nil => rfl
            | cons x t => exact absurd ⟨hd, by rw [hv]; simp⟩ h3
set_option maxRecDepth 100000 in
theorem chkF_ok {p l : List Chg} (h : chkF p l = 0) : (∀ c ∈ l, COk c ∧ kOk c.key = true) ∧ (∀ a ∈ p, ∀ c ∈ l, a.key ≠ c.key) ∧ l.Pairwise (fun a c => a.key ≠ c.key) := by
  induction l generalizing p with
  | nil => simp
  | cons c t ih =>
    unfold chkF at h
    split at h
    · rename_i h0
      obtain ⟨a1, a2, a3⟩ := ih h
      obtain ⟨b1, b2, b3⟩ := chk1_ok h0
      refine ⟨fun d hd => ?_, fun a ha d hd => ?_, List.pairwise_cons.2 ⟨fun d hd => a2 c (by simp) d hd, a3⟩⟩
      · rcases List.mem_cons.1 hd with rfl | hd
        · exact ⟨b1, b3⟩
        · exact a1 d hd
      · rcases List.mem_cons.1 hd with rfl | hd
        · exact b2 a ha
        · exact a2 a (by simp [ha]) d hd
    · rename_i h0; exact absurd h h0
/-- changes that can be -/
structure LOk (l : List Chg) : Prop where
  n1 : 1 ≤ l.length
  n2 : l.length ≤ 16
  c : ∀ c ∈ l, COk c
  k : ∀ c ∈ l, kOk c.key = true
  p : l.Pairwise (fun a c => a.key ≠ c.key)
set_option maxRecDepth 100000 in
theorem chkL_ok {l : List Chg} (h : chkL l = 0) : LOk l := by
  unfold chkL at h
  split at h
  · simp at h
  · obtain ⟨a, _, b⟩ := chkF_ok h
    exact ⟨by omega, by omega, fun c hc => (a c hc).1, fun c hc => (a c hc).2, b⟩
/-- a change's text -/
def chgL (c : Chg) : List Int := (if c.del = true then 1 else 0) :: (varL c.key.size ++ (strL c.key ++ (if c.del = true then [] else varL c.val.length ++ c.val)))
/-- the text of changes -/
def encL (l : List Chg) : List Int := varL l.length ++ l.flatMap chgL
set_option maxRecDepth 100000 in
theorem chgL_length {c : Chg} (h : COk c) : (chgL c).length ≤ 4200 := by
  have h1 := (varL_length c.key.size).2
  have h2 := (varL_length c.val.length).2
  have := h.k2
  have := h.v
  unfold chgL
  split <;> simp [strL_length] <;> omega
set_option maxRecDepth 100000 in
theorem flat_length (l : List Chg) (h : ∀ c ∈ l, COk c) : (l.flatMap chgL).length ≤ 4200 * l.length := by
  induction l with
  | nil => simp
  | cons c t ih =>
    have h1 := chgL_length (h c (by simp))
    have h2 := ih (fun d hd => h d (by simp [hd]))
    simp only [List.flatMap_cons, List.length_append, List.length_cons]
    omega
set_option maxRecDepth 100000 in
theorem chgL_byt {c : Chg} (h : Byt c.val) (hl : c.val.length ≤ 18446744073709551615) (hk : c.key.size ≤ 18446744073709551615) : Byt (chgL c) := by
  unfold chgL
  refine Byt.cons (by split <;> decide) (Byt.append (varL_byt _ (by omega) (by omega)) (Byt.append (strL_byt _) ?_))
  split
  · exact Byt.nil
  · exact Byt.append (varL_byt _ (by omega) (by omega)) h
set_option maxRecDepth 100000 in
theorem flatC_byt {l : List Chg} (h : ∀ c ∈ l, Byt c.val ∧ c.val.length ≤ 18446744073709551615 ∧ c.key.size ≤ 18446744073709551615) : Byt (l.flatMap chgL) := by
  intro x hx
  obtain ⟨c, hc, hx⟩ := List.mem_flatMap.1 hx
  exact chgL_byt (h c hc).1 (h c hc).2.1 (h c hc).2.2 x hx
/-- bytes that are counted: they, and what is behind them -/
def pc (b : List Int) : Option (List Int × List Int) :=
  if (rd b 0 0).2.2 = 0 ∧ (rd b 0 0).1 ≤ (b.length : Int) - (rd b 0 0).2.1 then some ((b.drop (rd b 0 0).2.1.toNat).take (rd b 0 0).1.toNat, (b.drop (rd b 0 0).2.1.toNat).drop (rd b 0 0).1.toNat) else none
set_option maxRecDepth 100000 in
theorem rd_var (x : Int) (t : List Int) (h0 : 0 ≤ x) (h1 : x ≤ 18446744073709551615) : rd (varL x ++ t) 0 0 = (x, ((varL x).length : Int), 0) := by
  have h := rd_varF 9 x 0 0 t h0 (by have e : (128 : Int) ^ (9 + 1) = 1180591620717411303424 := rfl; rw [e]; omega) (by omega) (by omega) (by simp; omega)
  rw [varL, h]; simp
set_option maxRecDepth 100000 in
theorem rdv_back {b : List Int} {x n : Int} (hb : Byt b) (h : rd b 0 0 = (x, n, 0)) : ∃ t, b = varL x ++ t ∧ n = ((varL x).length : Int) ∧ 0 ≤ x ∧ x ≤ 18446744073709551615 := by
  obtain ⟨m, y, h1, h2, h3, h4, h5, h6, _⟩ := rd_inv b 0 0 x n hb (by omega) h
  have hxy : x = y := by simpa using h5
  subst hxy
  have hbd := rd_bd b 0 0 hb (by omega) (by omega) (by decide)
  rw [h] at hbd
  have hv : varL x = b.take m := h6
  refine ⟨b.drop m, by rw [hv, List.take_append_drop], ?_, h4, hbd.2⟩
  rw [hv, List.length_take, h3]; omega
set_option maxRecDepth 100000 in
theorem pc_back {b x y : List Int} (hb : Byt b) (h : pc b = some (x, y)) : b = varL x.length ++ (x ++ y) := by
  unfold pc at h
  split at h
  · rename_i hc
    obtain ⟨n, m, e, hr⟩ : ∃ n m e, rd b 0 0 = (n, m, e) := ⟨_, _, _, rfl⟩
    rw [hr] at hc h
    obtain ⟨hc1, hc2⟩ := hc
    dsimp only at hc1 hc2 h
    subst hc1
    obtain ⟨t, hbt, hm, h0, h1⟩ := rdv_back hb hr
    have hd : b.drop m.toNat = t := by rw [hbt, hm]; simp
    rw [hd] at h
    have hl : b.length = (varL n).length + t.length := by rw [hbt]; simp
    simp only [Option.some.injEq, Prod.mk.injEq] at h
    obtain ⟨rfl, rfl⟩ := h
    have hlen : ((t.take n.toNat).length : Int) = n := by rw [List.length_take]; omega
    rw [hlen, List.take_append_drop]; exact hbt
  · cases h
set_option maxRecDepth 100000 in
theorem pc_var (x y : List Int) (h : x.length ≤ 18446744073709551615) : pc (varL x.length ++ (x ++ y)) = some (x, y) := by
  unfold pc
  rw [rd_var _ _ (by omega) (by omega)]
  dsimp only
  rw [if_pos ⟨rfl, by rw [List.length_append, List.length_append]; omega⟩]
  simp
set_option maxRecDepth 100000 in
theorem pc_byt {b x y : List Int} (hb : Byt b) (h : pc b = some (x, y)) : Byt x ∧ Byt y ∧ x.length + y.length + 1 ≤ b.length := by
  have e := pc_back hb h
  have hl := (varL_length x.length).1
  refine ⟨fun c hc => hb c (by rw [e]; simp [hc]), fun c hc => hb c (by rw [e]; simp [hc]), ?_⟩
  rw [e]; simp; omega
/-- the change with which bytes begin, and what is behind it -/
def tk : List Int → Option (Chg × List Int)
  | [] => none
  | k :: t => if k ≠ 0 ∧ k ≠ 1 then none else
    match pc t with
    | none => none
    | some (x, r) => if k = 1 then some (⟨strOf x, true, []⟩, r) else
      match pc r with
      | none => none
      | some (y, r2) => some (⟨strOf x, false, y⟩, r2)
def tks : Nat → List Int → Option (List Chg × List Int)
  | 0, b => some ([], b)
  | n + 1, b =>
    match tk b with
    | none => none
    | some (c, r) =>
      match tks n r with
      | none => none
      | some (l, r2) => some (c :: l, r2)
/-- the changes that bytes say -/
def decL (b : List Int) : Option (List Chg) :=
  if (rd b 0 0).2.2 = 0 ∧ (rd b 0 0).1 ≤ 16 then
    match tks (rd b 0 0).1.toNat (b.drop (rd b 0 0).2.1.toNat) with
    | none => none
    | some (l, r) => if r = [] ∧ chkL l = 0 then some l else none
  else none
set_option maxRecDepth 100000 in
theorem tk_back {b r : List Int} {c : Chg} (hb : Byt b) (h : tk b = some (c, r)) : b = chgL c ++ r ∧ Byt r ∧ Byt c.val ∧ r.length < b.length ∧ c.val.length ≤ b.length ∧ c.key.size ≤ b.length := by
  cases b with
  | nil => simp [tk] at h
  | cons k t =>
    have ht : Byt t := fun c hc => hb c (by simp [hc])
    rw [tk] at h
    split at h
    · cases h
    · rename_i hk
      split at h
      · cases h
      · rename_i x r1 hp
        have e1 := pc_back ht hp
        obtain ⟨bx, br, hl1⟩ := pc_byt ht hp
        split at h
        · rename_i hk1
          cases h
          refine ⟨?_, br, Byt.nil, by simp; omega, by simp, by rw [strOf_size]; simp; omega⟩
          rw [hk1, e1]; simp [chgL, strL_strOf bx, strOf_size]
        · rename_i hk1
          have hk0 : k = 0 := by omega
          split at h
          · cases h
          · rename_i y r2 hp2
            have e2 := pc_back br hp2
            obtain ⟨by', br2, hl2⟩ := pc_byt br hp2
            cases h
            refine ⟨?_, br2, by', by simp; omega, by simp; omega, by rw [strOf_size]; simp; omega⟩
            rw [hk0, e1, e2]; simp [chgL, strL_strOf bx, strOf_size]
set_option maxRecDepth 100000 in
theorem tk_chg {c : Chg} (r : List Int) (hc : COk c) : tk (chgL c ++ r) = some (c, r) := by
  obtain ⟨k, d, v⟩ := c
  have h1 := hc.k2
  have h2 := hc.v
  have h3 := hc.d
  simp only at h1 h2 h3
  cases d with
  | true =>
    have h4 : v = [] := h3 rfl
    subst h4
    have e := pc_var (strL k) r (by rw [strL_length]; omega)
    rw [strL_length] at e
    simp [chgL, tk, e, strOf_strL]
  | false =>
    have e := pc_var (strL k) (varL v.length ++ (v ++ r)) (by rw [strL_length]; omega)
    have e2 := pc_var v r (by omega)
    rw [strL_length] at e
    simp [chgL, tk, e, e2, strOf_strL]
set_option maxRecDepth 100000 in
theorem tks_back {n : Nat} : ∀ {b r : List Int} {l : List Chg}, Byt b → tks n b = some (l, r) → b = l.flatMap chgL ++ r ∧ l.length = n ∧ Byt r ∧ (∀ c ∈ l, Byt c.val ∧ c.val.length ≤ b.length ∧ c.key.size ≤ b.length) := by
  induction n with
  | zero => intro b r l hb h; simp [tks] at h; obtain ⟨rfl, rfl⟩ := h; simpa using hb
  | succ n ih =>
    intro b r l hb h
    unfold tks at h
    split at h
    · cases h
    · rename_i c r1 h1
      obtain ⟨e1, hr1, hc1, hlt, hv, hk⟩ := tk_back hb h1
      split at h
      · cases h
      · rename_i l1 r2 h2
        obtain ⟨e2, hl2, hr2, hc2⟩ := ih hr1 h2
        cases h
        refine ⟨by rw [e1, e2]; simp, by simp [hl2], hr2, fun d hd => ?_⟩
        rcases List.mem_cons.1 hd with rfl | hd
        · exact ⟨hc1, hv, hk⟩
        · have := hc2 d hd
          exact ⟨this.1, by omega, by omega⟩
set_option maxRecDepth 100000 in
theorem tks_flat (l : List Chg) (r : List Int) (h : ∀ c ∈ l, COk c) : tks l.length (l.flatMap chgL ++ r) = some (l, r) := by
  induction l with
  | nil => rfl
  | cons c t ih =>
    rw [List.flatMap_cons, List.append_assoc, List.length_cons]
    unfold tks
    rw [tk_chg _ (h c (by simp))]
    dsimp only
    rw [ih (fun d hd => h d (by simp [hd]))]
set_option maxRecDepth 100000 in
/-- **Decode answers just what Encode writes** -/
theorem dec_enc {l : List Chg} (h : chkL l = 0) : decL (encL l) = some l := by
  have hl := chkL_ok h
  have := hl.n2
  unfold decL encL
  rw [rd_var _ _ (by omega) (by omega)]
  dsimp only
  rw [if_pos ⟨rfl, by omega⟩]
  have e := tks_flat l [] hl.c
  rw [List.append_nil] at e
  simp [e, h]
set_option maxRecDepth 100000 in
theorem dec_back {b : List Int} {l : List Chg} (hb : Byt b) (h : decL b = some l) : b = encL l ∧ chkL l = 0 ∧ ∀ c ∈ l, Byt c.val := by
  unfold decL at h
  split at h
  · rename_i hc
    obtain ⟨n, m, e, hr⟩ : ∃ n m e, rd b 0 0 = (n, m, e) := ⟨_, _, _, rfl⟩
    rw [hr] at hc h
    obtain ⟨hc1, hc2⟩ := hc
    dsimp only at hc1 hc2 h
    subst hc1
    obtain ⟨t, hbt, hm, h0, h1⟩ := rdv_back hb hr
    have hd : b.drop m.toNat = t := by rw [hbt, hm]; simp
    have ht : Byt t := fun c hc => hb c (by rw [hbt]; simp [hc])
    rw [hd] at h
    split at h
    · cases h
    · rename_i l1 r h2
      split at h
      · rename_i h3
        obtain ⟨rfl, h3⟩ := h3
        cases h
        obtain ⟨e2, hl2, _, hv⟩ := tks_back ht h2
        refine ⟨?_, h3, fun c hc => (hv c hc).1⟩
        have hn : ((n.toNat : Nat) : Int) = n := by omega
        rw [hbt, e2, encL, hl2, hn]; simp
      · cases h
  · cases h
/-- the document's own reading: the byte of the kind is not looked at closely .. -/
def rtk : List Int → Option (Chg × List Int)
  | [] => none
  | k :: t =>
    match pc t with
    | none => none
    | some (x, r) => if k = 1 then some (⟨strOf x, true, []⟩, r) else
      match pc r with
      | none => none
      | some (y, r2) => some (⟨strOf x, false, y⟩, r2)
def rtks : Nat → List Int → Option (List Chg × List Int)
  | 0, b => some ([], b)
  | n + 1, b =>
    match rtk b with
    | none => none
    | some (c, r) =>
      match rtks n r with
      | none => none
      | some (l, r2) => some (c :: l, r2)
/-- .. but what is read must be written so -/
def rdecL (b : List Int) : Option (List Chg) :=
  if (rd b 0 0).2.2 = 0 ∧ (rd b 0 0).1 ≤ 16 then
    match rtks (rd b 0 0).1.toNat (b.drop (rd b 0 0).2.1.toNat) with
    | none => none
    | some (l, _) => if chkL l = 0 ∧ encL l = b then some l else none
  else none
set_option maxRecDepth 100000 in
theorem tk_rtk {b : List Int} {x : Chg × List Int} (h : tk b = some x) : rtk b = some x := by
  cases b with
  | nil => simp [tk] at h
  | cons k t =>
    rw [tk] at h
    rw [rtk]
    split at h
    · cases h
    · exact h
set_option maxRecDepth 100000 in
theorem tks_rtks {n : Nat} : ∀ {b : List Int} {x : List Chg × List Int}, tks n b = some x → rtks n b = some x := by
  induction n with
  | zero => intro b x h; exact h
  | succ n ih =>
    intro b x h
    unfold tks at h
    unfold rtks
    split at h
    · cases h
    · rename_i c r h1
      rw [tk_rtk h1]
      dsimp only
      split at h
      · cases h
      · rename_i l r2 h2
        rw [ih h2]
        exact h
set_option maxRecDepth 100000 in
/-- **both readings are one** -/
theorem rdec_dec {b : List Int} (hb : Byt b) : rdecL b = decL b := by
  have hto : ∀ l, decL b = some l → rdecL b = some l := by
    intro l hl
    obtain ⟨e1, e2, _⟩ := dec_back hb hl
    unfold decL at hl
    unfold rdecL
    split at hl
    · rename_i hc
      rw [if_pos hc]
      split at hl
      · cases hl
      · rename_i l1 r h2
        rw [tks_rtks h2]
        split at hl
        · cases hl
          dsimp only
          rw [if_pos ⟨e2, e1.symm⟩]
        · cases hl
    · cases hl
  cases e : decL b with
  | some l => exact hto l e
  | none =>
    cases e2 : rdecL b with
    | none => rfl
    | some l =>
      unfold rdecL at e2
      split at e2
      · split at e2
        · cases e2
        · split at e2
          · rename_i h4
            have := dec_enc h4.1
            rw [h4.2, e] at this
            cases this
          · cases e2
      · cases e2
end Go.Proofs.YtjnjokbdoendkaaGreat
namespace Go.Proofs.YtjnjokbdoendkaaGreat
open Go.RowKit
set_option linter.unusedVariables false

abbrev Pr := ByteArray × List Int
/-- one key is ahead of another -/
abbrev klt (a b : ByteArray) : Prop := a.data.toList < b.data.toList
set_option maxRecDepth 100000 in
theorem klt_irrefl (a : ByteArray) : ¬ klt a a := List.lt_irrefl _
set_option maxRecDepth 100000 in
theorem klt_trans {a b c : ByteArray} (h : klt a b) (k : klt b c) : klt a c := List.lt_trans h k
set_option maxRecDepth 100000 in
theorem klt_asymm {a b : ByteArray} (h : klt a b) : ¬ klt b a := fun k => klt_irrefl a (klt_trans h k)
set_option maxRecDepth 100000 in
theorem key_eq {a b : ByteArray} (h : a.data.toList = b.data.toList) : a = b := ByteArray.ext (Array.toList_inj.mp h)
set_option maxRecDepth 100000 in
theorem klt_tri {a b : ByteArray} (h : ¬ klt a b) (hn : a ≠ b) : klt b a := by
  unfold klt at *
  rcases Decidable.em (b.data.toList < a.data.toList) with h1 | h1
  · exact h1
  · exact absurd (key_eq (List.le_antisymm (List.not_lt.1 h1) (List.not_lt.1 h))) hn
set_option maxRecDepth 100000 in
theorem klt_ne {a b : ByteArray} (h : klt a b) : a ≠ b := fun e => klt_irrefl a (by rw [← e] at h; exact h)
set_option maxRecDepth 100000 in
theorem klt_nil {a : ByteArray} (h : 1 ≤ a.size) : klt ⟨#[]⟩ a := by
  unfold klt
  cases e : a.data.toList with
  | nil =>
    have h1 : a.size = a.data.toList.length := rfl
    rw [e, List.length_nil] at h1; omega
  | cons x t => simp
/-- by rising keys -/
def Srt (L : List Pr) : Prop := L.Pairwise (fun a b => klt a.1 b.1)
/-- no key stands twice -/
def Nod (M : List Pr) : Prop := M.Pairwise (fun a b => a.1 ≠ b.1)
set_option maxRecDepth 100000 in
theorem Srt.nod {L : List Pr} (h : Srt L) : Nod L := List.Pairwise.imp (fun h => klt_ne h) h
set_option maxRecDepth 100000 in
theorem Nod.perm {L M : List Pr} (h : Nod L) (p : L.Perm M) : Nod M := (List.Perm.pairwise_iff (fun h e => h e.symm) p).1 h
set_option maxRecDepth 100000 in
/-- two that are sorted and hold the same are one -/
theorem Srt.unique {L M : List Pr} (h : Srt L) (k : Srt M) (p : L.Perm M) : L = M :=
  List.Perm.eq_of_pairwise (le := fun (a b : Pr) => klt a.1 b.1) (fun a b _ _ (h1 : klt a.1 b.1) (h2 : klt b.1 a.1) => (klt_asymm h1 h2).elim) h k p
set_option maxRecDepth 100000 in
theorem Srt.filter {L : List Pr} (h : Srt L) (f : Pr → Bool) : Srt (L.filter f) := List.Pairwise.filter f h
/-- a key's value -/
def gtM (M : List Pr) (k : ByteArray) : Option (List Int) := (M.find? (fun p => decide (p.1 = k))).map (·.2)
set_option maxRecDepth 100000 in
theorem gtM_none {M : List Pr} {k : ByteArray} : gtM M k = none ↔ ∀ p ∈ M, p.1 ≠ k := by
  simp [gtM]
set_option maxRecDepth 100000 in
theorem gtM_mem {M : List Pr} {k : ByteArray} {v : List Int} (h : gtM M k = some v) : (k, v) ∈ M := by
  unfold gtM at h
  cases e : M.find? (fun p => decide (p.1 = k)) with
  | none => rw [e] at h; simp at h
  | some p =>
    rw [e] at h
    have h1 := List.mem_of_find?_eq_some e
    have h2 := List.find?_some e
    simp at h h2
    obtain ⟨a, b⟩ := p
    simp at h h2
    rw [← h, ← h2]; exact h1
set_option maxRecDepth 100000 in
theorem gtM_of_mem {M : List Pr} (hn : Nod M) {k : ByteArray} {v : List Int} (h : (k, v) ∈ M) : gtM M k = some v := by
  induction M with
  | nil => simp at h
  | cons p t ih =>
    have hp := List.pairwise_cons.1 hn
    by_cases e : p.1 = k
    · have : p = (k, v) := by
        rcases List.mem_cons.1 h with h1 | h1
        · exact h1.symm
        · exact absurd e (hp.1 _ h1)
      simp [gtM, this]
    · have h1 : (k, v) ∈ t := by
        rcases List.mem_cons.1 h with h1 | h1
        · exact absurd (by rw [← h1]) e
        · exact h1
      have := ih hp.2 h1
      unfold gtM at this ⊢
      rw [List.find?_cons_of_neg (by simpa using e)]; exact this
set_option maxRecDepth 100000 in
theorem gtM_perm {L M : List Pr} (p : L.Perm M) (hn : Nod L) (k : ByteArray) : gtM L k = gtM M k := by
  cases e : gtM L k with
  | some v => exact (gtM_of_mem (hn.perm p) (p.subset (gtM_mem e))).symm
  | none =>
    have h := gtM_none.1 e
    exact (gtM_none.2 fun q hq => h q (p.symm.subset hq)).symm
/-- a change done to a map's entries -/
def upd (M : List Pr) (c : Chg) : List Pr :=
  if c.del = true then M.filter (fun p => decide (p.1 ≠ c.key))
  else if M.any (fun p => decide (p.1 = c.key)) = true then M.map (fun p => if p.1 = c.key then (c.key, c.val) else p) else M ++ [(c.key, c.val)]
def doM (M : List Pr) (l : List Chg) : List Pr := l.foldl upd M
/-- what a change leaves, whatever the order -/
def lft (M : List Pr) (c : Chg) : List Pr := M.filter (fun p => decide (p.1 ≠ c.key)) ++ (if c.del = true then [] else [(c.key, c.val)])
set_option maxRecDepth 100000 in
theorem filter_all {M : List Pr} {k : ByteArray} (h : ∀ p ∈ M, p.1 ≠ k) : M.filter (fun p => decide (p.1 ≠ k)) = M := List.filter_eq_self.2 fun p hp => by simpa using h p hp
set_option maxRecDepth 100000 in
theorem map_all {M : List Pr} {k : ByteArray} {v : List Int} (h : ∀ p ∈ M, p.1 ≠ k) : M.map (fun p => if p.1 = k then (k, v) else p) = M := by
  induction M with
  | nil => rfl
  | cons p t ih => rw [List.map_cons, if_neg (h p (by simp)), ih (fun q hq => h q (by simp [hq]))]
set_option maxRecDepth 100000 in
theorem upd_lft {M : List Pr} (hn : Nod M) (c : Chg) : (upd M c).Perm (lft M c) := by
  unfold upd lft
  by_cases hd : c.del = true
  · rw [if_pos hd, if_pos hd, List.append_nil]
  · rw [if_neg hd, if_neg hd]
    by_cases ha : M.any (fun p => decide (p.1 = c.key)) = true
    · rw [if_pos ha]
      induction M with
      | nil => simp at ha
      | cons p t ih =>
        have hp := List.pairwise_cons.1 hn
        by_cases e : p.1 = c.key
        · have hne : ∀ q ∈ t, q.1 ≠ c.key := fun q hq e2 => hp.1 q hq (e.trans e2.symm)
          rw [List.map_cons, if_pos e, map_all hne, List.filter_cons_of_neg (by simpa using e), filter_all hne]
          exact List.perm_append_comm (l₁ := [(c.key, c.val)])
        · rw [List.map_cons, if_neg e, List.filter_cons_of_pos (by simpa using e), List.cons_append]
          refine List.Perm.cons _ (ih hp.2 ?_)
          simpa [e] using ha
    · rw [if_neg ha, filter_all fun p hp e => ha (List.any_eq_true.2 ⟨p, hp, by simpa using e⟩)]
set_option maxRecDepth 100000 in
theorem lft_nod {M : List Pr} (hn : Nod M) (c : Chg) : Nod (lft M c) := by
  unfold lft
  refine List.pairwise_append.2 ⟨List.Pairwise.filter _ hn, ?_, fun p hp q hq => ?_⟩
  · split <;> simp
  · split at hq
    · simp at hq
    · simp at hp hq
      rw [hq]; exact hp.2
set_option maxRecDepth 100000 in
theorem upd_nod {M : List Pr} (hn : Nod M) (c : Chg) : Nod (upd M c) := (lft_nod hn c).perm (upd_lft hn c).symm
set_option maxRecDepth 100000 in
theorem lft_perm {L M : List Pr} (p : L.Perm M) (c : Chg) : (lft L c).Perm (lft M c) := (p.filter _).append_right _
/-- the document's own way: a list by rising keys with a change done -/
def kp (k : ByteArray) (p : Pr) : List Pr := if p.1 = k then [] else [p]
def putG (c : Chg) : Bool → List Pr → List Pr
  | d, [] => if d = true then [] else [(c.key, c.val)]
  | d, p :: t => if d = false ∧ klt c.key p.1 then (c.key, c.val) :: (kp c.key p ++ putG c true t) else kp c.key p ++ putG c d t
def ptK (L : List Pr) (c : Chg) : List Pr := putG c c.del L
def doneL (L : List Pr) (l : List Chg) : List Pr := l.foldl ptK L
set_option maxRecDepth 100000 in
theorem kp_filter (k : ByteArray) (p : Pr) (t : List Pr) : (p :: t).filter (fun p => decide (p.1 ≠ k)) = kp k p ++ t.filter (fun p => decide (p.1 ≠ k)) := by
  unfold kp
  by_cases e : p.1 = k
  · rw [if_pos e, List.filter_cons_of_neg (by simpa using e)]; rfl
  · rw [if_neg e, List.filter_cons_of_pos (by simpa using e)]; rfl
set_option maxRecDepth 100000 in
theorem putG_true (c : Chg) (L : List Pr) : putG c true L = L.filter (fun p => decide (p.1 ≠ c.key)) := by
  induction L with
  | nil => rfl
  | cons p t ih => rw [putG, if_neg (by simp), ih, kp_filter]
set_option maxRecDepth 100000 in
theorem putG_perm (c : Chg) (d : Bool) (L : List Pr) : (putG c d L).Perm (L.filter (fun p => decide (p.1 ≠ c.key)) ++ (if d = true then [] else [(c.key, c.val)])) := by
  induction L generalizing d with
  | nil => rw [putG]; simp
  | cons p t ih =>
    rw [putG, kp_filter]
    by_cases h : d = false ∧ klt c.key p.1
    · rw [if_pos h, putG_true, h.1]
      exact List.perm_append_comm (l₁ := [(c.key, c.val)])
    · rw [if_neg h, List.append_assoc]
      exact (ih d).append_left _
set_option maxRecDepth 100000 in
theorem ptK_lft (L : List Pr) (c : Chg) : (ptK L c).Perm (lft L c) := putG_perm c c.del L
set_option maxRecDepth 100000 in
theorem putG_above {c : Chg} {d : Bool} {L : List Pr} {x : ByteArray} (h : ∀ p ∈ L, klt x p.1) (hc : klt x c.key) : ∀ p ∈ putG c d L, klt x p.1 := by
  intro p hp
  have := (putG_perm c d L).subset hp
  rcases List.mem_append.1 this with h1 | h1
  · exact h p (List.mem_filter.1 h1).1
  · split at h1
    · simp at h1
    · simp at h1; rw [h1]; exact hc
set_option maxRecDepth 100000 in
theorem putG_srt {c : Chg} {d : Bool} {L : List Pr} (h : Srt L) : Srt (putG c d L) := by
  induction L generalizing d with
  | nil => rw [putG]; split <;> simp [Srt]
  | cons p t ih =>
    have hp := List.pairwise_cons.1 h
    rw [putG]
    by_cases hc : d = false ∧ klt c.key p.1
    · rw [if_pos hc, putG_true, ← kp_filter]
      refine List.pairwise_cons.2 ⟨fun q hq => ?_, h.filter _⟩
      rcases List.mem_cons.1 (List.mem_filter.1 hq).1 with rfl | hq
      · exact hc.2
      · exact klt_trans hc.2 (hp.1 q hq)
    · rw [if_neg hc]
      unfold kp
      by_cases e : p.1 = c.key
      · rw [if_pos e]; exact ih hp.2
      · rw [if_neg e]
        refine List.pairwise_cons.2 ⟨fun q hq => ?_, ih hp.2⟩
        cases hd : d with
        | true =>
          rw [hd, putG_true] at hq
          exact hp.1 q (List.mem_filter.1 hq).1
        | false =>
          rw [hd] at hq hc
          exact putG_above hp.1 (klt_tri (fun hk => hc ⟨rfl, hk⟩) (fun e2 => e e2.symm)) q hq
set_option maxRecDepth 100000 in
theorem ptK_srt {c : Chg} {L : List Pr} (h : Srt L) : Srt (ptK L c) := putG_srt h
/-- a list by rising keys, and a map's entries, say the same -/
structure Rep (L M : List Pr) : Prop where
  s : Srt L
  p : L.Perm M
set_option maxRecDepth 100000 in
theorem Rep.nil : Rep [] [] := ⟨List.Pairwise.nil, List.Perm.refl _⟩
set_option maxRecDepth 100000 in
theorem Rep.nod {L M : List Pr} (h : Rep L M) : Nod M := h.s.nod.perm h.p
set_option maxRecDepth 100000 in
theorem Rep.upd {L M : List Pr} (h : Rep L M) (c : Chg) : Rep (ptK L c) (upd M c) :=
  ⟨ptK_srt h.s, (ptK_lft L c).trans ((lft_perm h.p c).trans (upd_lft h.nod c).symm)⟩
set_option maxRecDepth 100000 in
theorem Rep.done {L M : List Pr} (h : Rep L M) (l : List Chg) : Rep (doneL L l) (doM M l) := by
  induction l generalizing L M with
  | nil => exact h
  | cons c t ih => exact ih (h.upd c)
set_option maxRecDepth 100000 in
theorem Rep.get {L M : List Pr} (h : Rep L M) (k : ByteArray) : gtM L k = gtM M k := gtM_perm h.p h.s.nod k
/-- how many bytes are used -/
def byM (M : List Pr) : Nat := (M.map fun p => p.1.size + p.2.length).sum
set_option maxRecDepth 100000 in
theorem byM_perm {L M : List Pr} (p : L.Perm M) : byM L = byM M := (p.map _).sum_nat
set_option maxRecDepth 100000 in
theorem byM_append (L M : List Pr) : byM (L ++ M) = byM L + byM M := by simp [byM]
set_option maxRecDepth 100000 in
theorem byM_cons (p : Pr) (M : List Pr) : byM (p :: M) = p.1.size + p.2.length + byM M := by simp [byM]
/-- how many a key uses -/
def byK (M : List Pr) (k : ByteArray) : Nat := match gtM M k with | some v => k.size + v.length | none => 0
set_option maxRecDepth 100000 in
theorem byM_filter {M : List Pr} (hn : Nod M) (k : ByteArray) : byM (M.filter (fun p => decide (p.1 ≠ k))) + byK M k = byM M := by
  induction M with
  | nil => simp [byM, byK, gtM]
  | cons p t ih =>
    have hp := List.pairwise_cons.1 hn
    by_cases e : p.1 = k
    · have hne : ∀ q ∈ t, q.1 ≠ k := fun q hq e2 => hp.1 q hq (e.trans e2.symm)
      rw [List.filter_cons_of_neg (by simpa using e), filter_all hne, byM_cons]
      have : byK (p :: t) k = p.1.size + p.2.length := by simp [byK, gtM, e]
      omega
    · rw [List.filter_cons_of_pos (by simpa using e), byM_cons, byM_cons]
      have : byK (p :: t) k = byK t k := by
        unfold byK gtM
        rw [List.find?_cons_of_neg (by simpa using e)]
      have := ih hp.2
      omega
/-- how many bytes more a change uses -/
def mo1 (M : List Pr) (c : Chg) : Int := (if c.del = true then 0 else (c.key.size : Int) + c.val.length) - byK M c.key
def moM (M : List Pr) (l : List Chg) : Int := (l.map (mo1 M)).sum
set_option maxRecDepth 100000 in
theorem byM_upd {M : List Pr} (hn : Nod M) (c : Chg) : (byM (upd M c) : Int) = byM M + mo1 M c := by
  rw [byM_perm (upd_lft hn c), lft, byM_append]
  have := byM_filter hn c.key
  unfold mo1
  split
  · have h0 : byM [] = 0 := rfl
    omega
  · have h0 : byM [(c.key, c.val)] = c.key.size + c.val.length := by simp [byM]
    omega
set_option maxRecDepth 100000 in
theorem gtM_upd {M : List Pr} (hn : Nod M) (c : Chg) {k : ByteArray} (h : k ≠ c.key) : gtM (upd M c) k = gtM M k := by
  rw [gtM_perm (upd_lft hn c) (upd_nod hn c)]
  have h2 : ∀ N : List Pr, gtM (N.filter (fun p => decide (p.1 ≠ c.key))) k = gtM N k := by
    intro N
    induction N with
    | nil => rfl
    | cons p t ih =>
      by_cases e : p.1 = c.key
      · rw [List.filter_cons_of_neg (by simpa using e), ih]
        unfold gtM
        rw [List.find?_cons_of_neg (by simp; rw [e]; exact fun hh => h hh.symm)]
      · rw [List.filter_cons_of_pos (by simpa using e)]
        by_cases e2 : p.1 = k
        · simp [gtM, e2]
        · unfold gtM at ih ⊢
          rw [List.find?_cons_of_neg (by simpa using e2), List.find?_cons_of_neg (by simpa using e2)]; exact ih
  rw [← h2 M]
  unfold lft gtM
  rw [List.find?_append]
  have h3 : (if c.del = true then [] else [(c.key, c.val)] : List Pr).find? (fun p => decide (p.1 = k)) = none := by
    split
    · rfl
    · simp; exact fun hh => h hh.symm
  rw [h3, Option.or_none]
set_option maxRecDepth 100000 in
theorem moM_upd {M : List Pr} (hn : Nod M) (c : Chg) (l : List Chg) (h : ∀ d ∈ l, c.key ≠ d.key) : moM (upd M c) l = moM M l := by
  unfold moM
  congr 1
  refine List.map_congr_left fun d hd => ?_
  unfold mo1 byK
  rw [gtM_upd hn c (fun e => h d hd e.symm)]
set_option maxRecDepth 100000 in
/-- **what is used behind changes** -/
theorem byM_do {M : List Pr} (hn : Nod M) (l : List Chg) (hp : l.Pairwise (fun a c => a.key ≠ c.key)) : (byM (doM M l) : Int) = byM M + moM M l := by
  induction l generalizing M with
  | nil => simp [doM, moM]
  | cons c t ih =>
    have h := List.pairwise_cons.1 hp
    have h1 := ih (upd_nod hn c) h.2
    rw [moM_upd hn c t h.1] at h1
    have h2 := byM_upd hn c
    have h3 : moM M (c :: t) = mo1 M c + moM M t := by simp [moM]
    have h4 : doM M (c :: t) = doM (upd M c) t := rfl
    rw [h4, h3]; omega
/-- what every store's entries are -/
structure MOk (M : List Pr) : Prop where
  nod : Nod M
  k1 : ∀ p ∈ M, 1 ≤ p.1.size
  k2 : ∀ p ∈ M, p.1.size ≤ 40
  v : ∀ p ∈ M, p.2.length ≤ 4096
set_option maxRecDepth 100000 in
theorem MOk.nil : MOk [] := ⟨List.Pairwise.nil, by simp, by simp, by simp⟩
set_option maxRecDepth 100000 in
theorem upd_mem {M : List Pr} (hn : Nod M) {c : Chg} {p : Pr} (h : p ∈ upd M c) : p ∈ M ∨ p = (c.key, c.val) := by
  have := (upd_lft hn c).subset h
  rcases List.mem_append.1 this with h1 | h1
  · exact .inl (List.mem_filter.1 h1).1
  · split at h1
    · simp at h1
    · exact .inr (by simpa using h1)
set_option maxRecDepth 100000 in
theorem MOk.upd {M : List Pr} (h : MOk M) {c : Chg} (hc : COk c) : MOk (upd M c) := by
  refine ⟨upd_nod h.nod c, ?_, ?_, ?_⟩
  · intro p hp; rcases upd_mem h.nod hp with h1 | rfl
    · exact h.k1 p h1
    · exact hc.k1
  · intro p hp; rcases upd_mem h.nod hp with h1 | rfl
    · exact h.k2 p h1
    · exact hc.k2
  · intro p hp; rcases upd_mem h.nod hp with h1 | rfl
    · exact h.v p h1
    · exact hc.v
set_option maxRecDepth 100000 in
theorem MOk.doM {M : List Pr} (h : MOk M) {l : List Chg} (hl : ∀ c ∈ l, COk c) : MOk (doM M l) := by
  induction l generalizing M with
  | nil => exact h
  | cons c t ih => exact ih (h.upd (hl c (by simp))) (fun d hd => hl d (by simp [hd]))
set_option maxRecDepth 100000 in
theorem upd_length (M : List Pr) (c : Chg) : (upd M c).length ≤ M.length + 1 := by
  unfold upd
  split
  · exact Nat.le_succ_of_le (List.length_filter_le _ _)
  · split <;> simp
set_option maxRecDepth 100000 in
theorem doM_length (M : List Pr) (l : List Chg) : (doM M l).length ≤ M.length + l.length := by
  induction l generalizing M with
  | nil => simp [doM]
  | cons c t ih =>
    have h1 := ih (upd M c)
    have h2 := upd_length M c
    have h3 : doM M (c :: t) = doM (upd M c) t := rfl
    rw [h3, List.length_cons]; omega
set_option maxRecDepth 100000 in
theorem byM_le {M : List Pr} (h : MOk M) : byM M ≤ 4136 * M.length := by
  have : ∀ N : List Pr, (∀ p ∈ N, p.1.size ≤ 40 ∧ p.2.length ≤ 4096) → byM N ≤ 4136 * N.length := by
    intro N
    induction N with
    | nil => simp [byM]
    | cons p t ih =>
      intro hh
      have h1 := hh p (by simp)
      have h2 := ih (fun q hq => hh q (by simp [hq]))
      rw [byM_cons, List.length_cons]; omega
  exact this M fun p hp => ⟨h.k2 p hp, h.v p hp⟩
/-- a text's changes done -/
def bkM (M : List Pr) (b : List Int) : List Pr := match decL b with | some l => doM M l | none => M
/-- what texts make of nothing -/
def mkM (T : List (List Int)) : List Pr := T.foldl bkM []
def TDec (T : List (List Int)) : Prop := ∀ b ∈ T, (decL b).isSome = true
end Go.Proofs.YtjnjokbdoendkaaGreat
