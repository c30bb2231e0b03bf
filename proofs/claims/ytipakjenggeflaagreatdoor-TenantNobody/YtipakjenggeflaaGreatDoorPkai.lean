/- Texts as lists of bytes, bytes as texts. No walk. bytes as a text, and bytes.Equal. Changes, their texts, and what a store holds: the plain mathematics. No walk. What a store holds: a map's entries, and a list by rising keys. The plain mathematics. No walk. Whether a text is a key: the program's answer and the document's. '[]byte(s)': new memory. -/
import Derived.Test.YtipakjenggeflaaGreatDoorPkaa
import Derived.Test.YtipakjenggeflaaGreatDoorPkab
import Derived.Lib.Strings
import Derived.Laws.BitsAllLaws
import Derived.Laws.IdiomStrings
import Derived.Lib.SlicesS
import Derived.Lib.ConvBytes
namespace Go.Proofs.YtipakjenggeflaaGreatDoor
open Go.RowKit
set_option linter.unusedVariables false

/-- the text that a list of bytes is -/
def strOf (l : List Int) : ByteArray := ⟨(l.map fun c => UInt8.ofNat c.toNat).toArray⟩
set_option maxRecDepth 100000 in
theorem strOf_inj : ∀ {l m : List Int}, Byt l → Byt m → strOf l = strOf m → l = m := by
  intro l m hl hm h
  have h1 : (l.map fun c => UInt8.ofNat c.toNat) = m.map fun c => UInt8.ofNat c.toNat := by
    have := congrArg ByteArray.data h
    simpa [strOf] using this
  have hlen : l.length = m.length := by have := congrArg List.length h1; simpa using this
  apply List.ext_getElem?
  intro i
  by_cases hi : i < l.length
  · have e := congrArg (·[i]?) h1
    simp only [List.getElem?_map, List.getElem?_eq_getElem hi, List.getElem?_eq_getElem (show i < m.length by omega), Option.map_some, Option.some.injEq] at e
    have b1 := hl _ (List.getElem_mem hi)
    have b2 := hm _ (List.getElem_mem (show i < m.length by omega))
    have e2 := congrArg UInt8.toNat e
    simp only [UInt8.toNat_ofNat'] at e2
    rw [List.getElem?_eq_getElem hi, List.getElem?_eq_getElem (show i < m.length by omega)]
    congr 1
    omega
  · rw [List.getElem?_eq_none (by omega), List.getElem?_eq_none (by omega)]
set_option maxRecDepth 100000 in
theorem fold_push : ∀ (l : List Int) (r : ByteArray), l.foldl (fun r n => r.push (UInt8.ofNat n.toNat)) r = ⟨r.data ++ (l.map fun c => UInt8.ofNat c.toNat).toArray⟩
  | [], r => by simp
  | b :: l, r => by rw [List.foldl_cons, fold_push l]; simp [ByteArray.push]
set_option maxRecDepth 100000 in
/-- 'string(b)' of bytes that read as a list -/
theorem Bts.str {w : World} {a : Option Addr} {len cap : Nat} {l : List Int} (h : Bts w a len cap l) : (convert 34 9 (.slice a len cap)).run Tryz.prog w = .ok (.string (strOf l)) w := by
  rw [run_convert_bytes_string w _ _ 5 a len cap Tryz.underlying34 Tryz.underlying5 Tryz.underlying9]
  cases a with
  | none =>
    have h1 := h.nil rfl
    have h2 := h.le_cap
    have h3 := h.len_eq
    obtain rfl : l = [] := List.eq_nil_of_length_eq_zero (by omega)
    rfl
  | some ad =>
    have hl := run_loadCells_list (P := Tryz.prog) w ad (bv l) h.cells
    rw [bv_length, h.len_eq] at hl
    rw [run_bytesToString w ad len cap l hl, fold_push]
    have he0 : ByteArray.empty.data = #[] := rfl
    rw [he0]
    simp [strOf]
/-- a text's bytes -/
def strL (s : ByteArray) : List Int := s.data.toList.map (fun b => (b.toNat : Int))
set_option maxRecDepth 100000 in
theorem strL_length (s : ByteArray) : (strL s).length = s.size := by rw [strL, List.length_map]; rfl
set_option maxRecDepth 100000 in
theorem strL_byt (s : ByteArray) : Byt (strL s) := by
  intro c hc
  obtain ⟨b, _, rfl⟩ := List.mem_map.1 hc
  have := b.toNat_lt
  omega
set_option maxRecDepth 100000 in
theorem strOf_strL (s : ByteArray) : strOf (strL s) = s := by
  obtain ⟨d⟩ := s
  simp only [strOf, strL, List.map_map, ByteArray.mk.injEq]
  have e : ((fun c : Int => UInt8.ofNat c.toNat) ∘ fun b : UInt8 => (b.toNat : Int)) = id := by
    funext b
    simp
  rw [e]; simp
set_option maxRecDepth 100000 in
theorem strOf_size (l : List Int) : (strOf l).size = l.length := by simp [strOf, ByteArray.size]
set_option maxRecDepth 100000 in
theorem strL_strOf {l : List Int} (h : Byt l) : strL (strOf l) = l := strOf_inj (strL_byt _) h (strOf_strL _)
set_option maxRecDepth 100000 in
theorem strL_getD (s : ByteArray) (j : Nat) (hj : j < s.size) : (strL s).getD j 0 = ((s.data.toList.getD j 0).toNat : Int) := by
  have h : j < s.data.toList.length := by simpa using hj
  simp only [strL, List.getD_eq_getElem?_getD, List.getElem?_map, List.getElem?_eq_getElem h, Option.map_some, Option.getD_some]
end Go.Proofs.YtipakjenggeflaaGreatDoor
namespace Go.Proofs.YtipakjenggeflaaGreatDoor
open Go.RowKit
set_option linter.unusedVariables false

set_option maxRecDepth 100000 in
theorem beq_any (a b : Option Addr) (n m c d : Nat) (la lb : List Int) (w : World) (ha : Bts w a n c la) (hb : Bts w b m d lb) :
    Calls Tryz.prog 318 #[.slice a n c, .slice b m d] w fun e w' => e = .returned (.bool (decide (la = lb))) ∧ w = w' := by
  have h1 := ha.str
  have h2 := hb.str
  have HQ : Hid (((strOf la).toList == (strOf lb).toList) = decide (la = lb)) := by
    show _ = _
    by_cases h : la = lb
    · rw [decide_eq_true h]
      exact (Lib.bytes_beq_iff _ _).2 (by rw [h])
    · rw [decide_eq_false h]
      exact (Lib.bytes_beq_false_iff _ _).2 (fun e => h (strOf_inj ha.byt hb.byt e))
  clear ha hb
  generalize strOf la = sa at h1 HQ
  generalize strOf lb = sb at h2 HQ
  go_enter Tryz.func318, Tryz.ntmps318
  go_wp2
  go_ret
  exact ⟨ret_bool HQ.out, rfl⟩
end Go.Proofs.YtipakjenggeflaaGreatDoor
namespace Go.Proofs.YtipakjenggeflaaGreatDoor
open Go.RowKit
set_option linter.unusedVariables false

/-- a change -/
structure Chg where
  key : ByteArray
  del : Bool
  val : List Int
/-- is it a key -/
def kOk (s : ByteArray) : Bool := (strL s).all (fun c => decide (33 ≤ c) && decide (c ≤ 126)) && (decide (1 ≤ s.size) && decide (s.size ≤ 40))
/-- can a change be behind others -/
def chk1 (c : Chg) (p : List Chg) : Int :=
  if kOk c.key = false then 2 else if 4096 < c.val.length then 5 else if c.del = true ∧ 0 < c.val.length then 2 else if p.any (fun a => decide (a.key = c.key)) = true then 10 else 0
def chkFS : List Chg → List Chg → Int
  | _, [] => 0
  | p, c :: t => if chk1 c p = 0 then chkFS (p ++ [c]) t else chk1 c p
/-- can changes be -/
def chkL (l : List Chg) : Int := if l.length < 1 ∨ 16 < l.length then 2 else chkFS [] l
/-- what is known of a change that can be -/
structure COk (c : Chg) : Prop where
  k1 : 1 ≤ c.key.size
  k2 : c.key.size ≤ 40
  v : c.val.length ≤ 4096
  d : c.del = true → c.val = []
set_option maxRecDepth 100000 in
theorem chk1_ok {c : Chg} {p : List Chg} (h : chk1 c p = 0) : COk c ∧ (∀ a ∈ p, a.key ≠ c.key) ∧ kOk c.key = true := by
  unfold chk1 at h
  split at h
  · simp at h
  · rename_i h1
    split at h
    · simp at h
    · rename_i h2
      split at h
      · simp at h
      · rename_i h3
        split at h
        · simp at h
        · rename_i h4
          have h1' : kOk c.key = true := by cases hh : kOk c.key; exact absurd hh h1; rfl
          refine ⟨⟨?_, ?_, by omega, fun hd => ?_⟩, fun a ha e => h4 (List.any_eq_true.2 ⟨a, ha, by simp [e]⟩), h1'⟩
          · simp [kOk] at h1'; omega
          · simp [kOk] at h1'; omega
          · cases hv : c.val with
            | nil => rfl
            | cons x t => exact absurd ⟨hd, by rw [hv]; simp⟩ h3
set_option maxRecDepth 100000 in
theorem chkF_ok {p l : List Chg} (h : chkFS p l = 0) : (∀ c ∈ l, COk c ∧ kOk c.key = true) ∧ (∀ a ∈ p, ∀ c ∈ l, a.key ≠ c.key) ∧ l.Pairwise (fun a c => a.key ≠ c.key) := by
  induction l generalizing p with
  | nil => simp
  | cons c t ih =>
    unfold chkFS at h
    split at h
    · rename_i h0
      obtain ⟨a1, a2, a3⟩ := ih h
      obtain ⟨b1, b2, b3⟩ := chk1_ok h0
      refine ⟨fun d hd => ?_, fun a ha d hd => ?_, List.pairwise_cons.2 ⟨fun d hd => a2 c (by simp) d hd, a3⟩⟩
      · rcases List.mem_cons.1 hd with rfl | hd
        · exact ⟨b1, b3⟩
        · exact a1 d hd
      · rcases List.mem_cons.1 hd with rfl | hd
        · exact b2 a ha
        · exact a2 a (by simp [ha]) d hd
    · rename_i h0; exact absurd h h0
/-- changes that can be -/
structure LOk (l : List Chg) : Prop where
  n1 : 1 ≤ l.length
  n2 : l.length ≤ 16
  c : ∀ c ∈ l, COk c
  k : ∀ c ∈ l, kOk c.key = true
  p : l.Pairwise (fun a c => a.key ≠ c.key)
set_option maxRecDepth 100000 in
theorem chkL_ok {l : List Chg} (h : chkL l = 0) : LOk l := by
  unfold chkL at h
  split at h
  · simp at h
  · obtain ⟨a, _, b⟩ := chkF_ok h
    exact ⟨by omega, by omega, fun c hc => (a c hc).1, fun c hc => (a c hc).2, b⟩
/-- a change's text -/
def chgL (c : Chg) : List Int := (if c.del = true then 1 else 0) :: (varL c.key.size ++ (strL c.key ++ (if c.del = true then [] else varL c.val.length ++ c.val)))
/-- the text of changes -/
def encL (l : List Chg) : List Int := varL l.length ++ l.flatMap chgL
set_option maxRecDepth 100000 in
theorem chgL_length {c : Chg} (h : COk c) : (chgL c).length ≤ 4200 := by
  have h1 := (varL_length c.key.size).2
  have h2 := (varL_length c.val.length).2
  have := h.k2
  have := h.v
  unfold chgL
  split <;> simp [strL_length] <;> omega
set_option maxRecDepth 100000 in
theorem flat_length (l : List Chg) (h : ∀ c ∈ l, COk c) : (l.flatMap chgL).length ≤ 4200 * l.length := by
  induction l with
  | nil => simp
  | cons c t ih =>
    have h1 := chgL_length (h c (by simp))
    have h2 := ih (fun d hd => h d (by simp [hd]))
    simp only [List.flatMap_cons, List.length_append, List.length_cons]
    omega
set_option maxRecDepth 100000 in
theorem chgL_byt {c : Chg} (h : Byt c.val) (hl : c.val.length ≤ 18446744073709551615) (hk : c.key.size ≤ 18446744073709551615) : Byt (chgL c) := by
  unfold chgL
  refine Byt.cons (by split <;> decide) (Byt.append (varL_byt _ (by omega) (by omega)) (Byt.append (strL_byt _) ?_))
  split
  · exact Byt.nil
  · exact Byt.append (varL_byt _ (by omega) (by omega)) h
set_option maxRecDepth 100000 in
theorem flatC_byt {l : List Chg} (h : ∀ c ∈ l, Byt c.val ∧ c.val.length ≤ 18446744073709551615 ∧ c.key.size ≤ 18446744073709551615) : Byt (l.flatMap chgL) := by
  intro x hx
  obtain ⟨c, hc, hx⟩ := List.mem_flatMap.1 hx
  exact chgL_byt (h c hc).1 (h c hc).2.1 (h c hc).2.2 x hx
/-- bytes that are counted: they, and what is behind them -/
def pc (b : List Int) : Option (List Int × List Int) :=
  if (rd b 0 0).2.2 = 0 ∧ (rd b 0 0).1 ≤ (b.length : Int) - (rd b 0 0).2.1 then some ((b.drop (rd b 0 0).2.1.toNat).take (rd b 0 0).1.toNat, (b.drop (rd b 0 0).2.1.toNat).drop (rd b 0 0).1.toNat) else none
set_option maxRecDepth 100000 in
theorem rdv_back {b : List Int} {x n : Int} (hb : Byt b) (h : rd b 0 0 = (x, n, 0)) : ∃ t, b = varL x ++ t ∧ n = ((varL x).length : Int) ∧ 0 ≤ x ∧ x ≤ 18446744073709551615 := by
  obtain ⟨m, y, h1, h2, h3, h4, h5, h6, _⟩ := rd_inv b 0 0 x n hb (by omega) h
  have hxy : x = y := by simpa using h5
  subst hxy
  have hbd := rd_bd b 0 0 hb (by omega) (by omega) (by decide)
  rw [h] at hbd
  have hv : varL x = b.take m := h6
  refine ⟨b.drop m, by rw [hv, List.take_append_drop], ?_, h4, hbd.2⟩
  rw [hv, List.length_take, h3]; omega
set_option maxRecDepth 100000 in
theorem pc_back {b x y : List Int} (hb : Byt b) (h : pc b = some (x, y)) : b = varL x.length ++ (x ++ y) := by
  unfold pc at h
  split at h
  · rename_i hc
    obtain ⟨n, m, e, hr⟩ : ∃ n m e, rd b 0 0 = (n, m, e) := ⟨_, _, _, rfl⟩
    rw [hr] at hc h
    obtain ⟨hc1, hc2⟩ := hc
    dsimp only at hc1 hc2 h
    subst hc1
    obtain ⟨t, hbt, hm, h0, h1⟩ := rdv_back hb hr
    have hd : b.drop m.toNat = t := by rw [hbt, hm]; simp
    rw [hd] at h
    have hl : b.length = (varL n).length + t.length := by rw [hbt]; simp
    simp only [Option.some.injEq, Prod.mk.injEq] at h
    obtain ⟨rfl, rfl⟩ := h
    have hlen : ((t.take n.toNat).length : Int) = n := by rw [List.length_take]; omega
    rw [hlen, List.take_append_drop]; exact hbt
  · cases h
set_option maxRecDepth 100000 in
theorem pc_byt {b x y : List Int} (hb : Byt b) (h : pc b = some (x, y)) : Byt x ∧ Byt y ∧ x.length + y.length + 1 ≤ b.length := by
  have e := pc_back hb h
  have hl := (varL_length x.length).1
  refine ⟨fun c hc => hb c (by rw [e]; simp [hc]), fun c hc => hb c (by rw [e]; simp [hc]), ?_⟩
  rw [e]; simp; omega
/-- the change with which bytes begin, and what is behind it -/
def tk : List Int → Option (Chg × List Int)
  | [] => none
  | k :: t => if k ≠ 0 ∧ k ≠ 1 then none else
    match pc t with
    | none => none
    | some (x, r) => if k = 1 then some (⟨strOf x, true, []⟩, r) else
      match pc r with
      | none => none
      | some (y, r2) => some (⟨strOf x, false, y⟩, r2)
def tks : Nat → List Int → Option (List Chg × List Int)
  | 0, b => some ([], b)
  | n + 1, b =>
    match tk b with
    | none => none
    | some (c, r) =>
      match tks n r with
      | none => none
      | some (l, r2) => some (c :: l, r2)
/-- the changes that bytes say -/
def decL (b : List Int) : Option (List Chg) :=
  if (rd b 0 0).2.2 = 0 ∧ (rd b 0 0).1 ≤ 16 then
    match tks (rd b 0 0).1.toNat (b.drop (rd b 0 0).2.1.toNat) with
    | none => none
    | some (l, r) => if r = [] ∧ chkL l = 0 then some l else none
  else none
set_option maxRecDepth 100000 in
theorem tk_back {b r : List Int} {c : Chg} (hb : Byt b) (h : tk b = some (c, r)) : b = chgL c ++ r ∧ Byt r ∧ Byt c.val ∧ r.length < b.length ∧ c.val.length ≤ b.length ∧ c.key.size ≤ b.length := by
  cases b with
  | nil => simp [tk] at h
  | cons k t =>
    have ht : Byt t := fun c hc => hb c (by simp [hc])
    rw [tk] at h
    split at h
    · cases h
    · rename_i hk
      split at h
      · cases h
      · rename_i x r1 hp
        have e1 := pc_back ht hp
        obtain ⟨bx, br, hl1⟩ := pc_byt ht hp
        split at h
        · rename_i hk1
          cases h
          refine ⟨?_, br, Byt.nil, by simp; omega, by simp, by rw [strOf_size]; simp; omega⟩
          rw [hk1, e1]; simp [chgL, strL_strOf bx, strOf_size]
        · rename_i hk1
          have hk0 : k = 0 := by omega
          split at h
          · cases h
          · rename_i y r2 hp2
            have e2 := pc_back br hp2
            obtain ⟨by', br2, hl2⟩ := pc_byt br hp2
            cases h
            refine ⟨?_, br2, by', by simp; omega, by simp; omega, by rw [strOf_size]; simp; omega⟩
            rw [hk0, e1, e2]; simp [chgL, strL_strOf bx, strOf_size]
set_option maxRecDepth 100000 in
theorem tks_back {n : Nat} : ∀ {b r : List Int} {l : List Chg}, Byt b → tks n b = some (l, r) → b = l.flatMap chgL ++ r ∧ l.length = n ∧ Byt r ∧ (∀ c ∈ l, Byt c.val ∧ c.val.length ≤ b.length ∧ c.key.size ≤ b.length) := by
  induction n with
  | zero => intro b r l hb h; simp [tks] at h; obtain ⟨rfl, rfl⟩ := h; simpa using hb
  | succ n ih =>
    intro b r l hb h
    unfold tks at h
    split at h
    · cases h
    · rename_i c r1 h1
      obtain ⟨e1, hr1, hc1, hlt, hv, hk⟩ := tk_back hb h1
      split at h
      · cases h
      · rename_i l1 r2 h2
        obtain ⟨e2, hl2, hr2, hc2⟩ := ih hr1 h2
        cases h
        refine ⟨by rw [e1, e2]; simp, by simp [hl2], hr2, fun d hd => ?_⟩
        rcases List.mem_cons.1 hd with rfl | hd
        · exact ⟨hc1, hv, hk⟩
        · have := hc2 d hd
          exact ⟨this.1, by omega, by omega⟩
set_option maxRecDepth 100000 in
theorem dec_back {b : List Int} {l : List Chg} (hb : Byt b) (h : decL b = some l) : b = encL l ∧ chkL l = 0 ∧ ∀ c ∈ l, Byt c.val := by
  unfold decL at h
  split at h
  · rename_i hc
    obtain ⟨n, m, e, hr⟩ : ∃ n m e, rd b 0 0 = (n, m, e) := ⟨_, _, _, rfl⟩
    rw [hr] at hc h
    obtain ⟨hc1, hc2⟩ := hc
    dsimp only at hc1 hc2 h
    subst hc1
    obtain ⟨t, hbt, hm, h0, h1⟩ := rdv_back hb hr
    have hd : b.drop m.toNat = t := by rw [hbt, hm]; simp
    have ht : Byt t := fun c hc => hb c (by rw [hbt]; simp [hc])
    rw [hd] at h
    split at h
    · cases h
    · rename_i l1 r h2
      split at h
      · rename_i h3
        obtain ⟨rfl, h3⟩ := h3
        cases h
        obtain ⟨e2, hl2, _, hv⟩ := tks_back ht h2
        refine ⟨?_, h3, fun c hc => (hv c hc).1⟩
        have hn : ((n.toNat : Nat) : Int) = n := by omega
        rw [hbt, e2, encL, hl2, hn]; simp
      · cases h
  · cases h
end Go.Proofs.YtipakjenggeflaaGreatDoor
namespace Go.Proofs.YtipakjenggeflaaGreatDoor
open Go.RowKit
set_option linter.unusedVariables false

abbrev Pr := ByteArray × List Int
/-- one key is ahead of another -/
abbrev klt (a b : ByteArray) : Prop := a.data.toList < b.data.toList
set_option maxRecDepth 100000 in
theorem klt_irrefl (a : ByteArray) : ¬ klt a a := List.lt_irrefl _
set_option maxRecDepth 100000 in
theorem klt_trans {a b c : ByteArray} (h : klt a b) (k : klt b c) : klt a c := List.lt_trans h k
set_option maxRecDepth 100000 in
theorem klt_asymm {a b : ByteArray} (h : klt a b) : ¬ klt b a := fun k => klt_irrefl a (klt_trans h k)
set_option maxRecDepth 100000 in
theorem key_eq {a b : ByteArray} (h : a.data.toList = b.data.toList) : a = b := ByteArray.ext (Array.toList_inj.mp h)
set_option maxRecDepth 100000 in
theorem klt_tri {a b : ByteArray} (h : ¬ klt a b) (hn : a ≠ b) : klt b a := by
  unfold klt at *
  rcases Decidable.em (b.data.toList < a.data.toList) with h1 | h1
  · exact h1
  · exact absurd (key_eq (List.le_antisymm (List.not_lt.1 h1) (List.not_lt.1 h))) hn
set_option maxRecDepth 100000 in
theorem klt_ne {a b : ByteArray} (h : klt a b) : a ≠ b := fun e => klt_irrefl a (by rw [← e] at h; exact h)
set_option maxRecDepth 100000 in
theorem klt_nil {a : ByteArray} (h : 1 ≤ a.size) : klt ⟨#[]⟩ a := by
  unfold klt
  cases e : a.data.toList with
  | nil =>
    have h1 : a.size = a.data.toList.length := rfl
    rw [e, List.length_nil] at h1; omega
  | cons x t => simp
/-- by rising keys -/
def Srt (L : List Pr) : Prop := L.Pairwise (fun a b => klt a.1 b.1)
/-- no key stands twice -/
def Nod (M : List Pr) : Prop := M.Pairwise (fun a b => a.1 ≠ b.1)
set_option maxRecDepth 100000 in
theorem Srt.nod {L : List Pr} (h : Srt L) : Nod L := List.Pairwise.imp (fun h => klt_ne h) h
set_option maxRecDepth 100000 in
theorem Nod.perm {L M : List Pr} (h : Nod L) (p : L.Perm M) : Nod M := (List.Perm.pairwise_iff (fun h e => h e.symm) p).1 h
set_option maxRecDepth 100000 in
/-- two that are sorted and hold the same are one -/
theorem Srt.unique {L M : List Pr} (h : Srt L) (k : Srt M) (p : L.Perm M) : L = M :=
  List.Perm.eq_of_pairwise (le := fun (a b : Pr) => klt a.1 b.1) (fun a b _ _ (h1 : klt a.1 b.1) (h2 : klt b.1 a.1) => (klt_asymm h1 h2).elim) h k p
set_option maxRecDepth 100000 in
theorem Srt.filter {L : List Pr} (h : Srt L) (f : Pr → Bool) : Srt (L.filter f) := List.Pairwise.filter f h
/-- a key's value -/
def gtM (M : List Pr) (k : ByteArray) : Option (List Int) := (M.find? (fun p => decide (p.1 = k))).map (·.2)
set_option maxRecDepth 100000 in
theorem gtM_none {M : List Pr} {k : ByteArray} : gtM M k = none ↔ ∀ p ∈ M, p.1 ≠ k := by
  simp [gtM]
set_option maxRecDepth 100000 in
theorem gtM_mem {M : List Pr} {k : ByteArray} {v : List Int} (h : gtM M k = some v) : (k, v) ∈ M := by
  unfold gtM at h
  cases e : M.find? (fun p => decide (p.1 = k)) with
  | none => rw [e] at h; simp at h
  | some p =>
    rw [e] at h
    have h1 := List.mem_of_find?_eq_some e
    have h2 := List.find?_some e
    simp at h h2
    obtain ⟨a, b⟩ := p
    simp at h h2
    rw [← h, ← h2]; exact h1
set_option maxRecDepth 100000 in
theorem gtM_of_mem {M : List Pr} (hn : Nod M) {k : ByteArray} {v : List Int} (h : (k, v) ∈ M) : gtM M k = some v := by
  induction M with
  | nil => simp at h
  | cons p t ih =>
    have hp := List.pairwise_cons.1 hn
    by_cases e : p.1 = k
    · have : p = (k, v) := by
        rcases List.mem_cons.1 h with h1 | h1
        · exact h1.symm
        · exact absurd e (hp.1 _ h1)
      simp [gtM, this]
    · have h1 : (k, v) ∈ t := by
        rcases List.mem_cons.1 h with h1 | h1
        · exact absurd (by rw [← h1]) e
        · exact h1
      have := ih hp.2 h1
      unfold gtM at this ⊢
      rw [List.find?_cons_of_neg (by simpa using e)]; exact this
set_option maxRecDepth 100000 in
theorem gtM_perm {L M : List Pr} (p : L.Perm M) (hn : Nod L) (k : ByteArray) : gtM L k = gtM M k := by
  cases e : gtM L k with
  | some v => exact (gtM_of_mem (hn.perm p) (p.subset (gtM_mem e))).symm
  | none =>
    have h := gtM_none.1 e
    exact (gtM_none.2 fun q hq => h q (p.symm.subset hq)).symm
/-- a change done to a map's entries -/
def upd (M : List Pr) (c : Chg) : List Pr :=
  if c.del = true then M.filter (fun p => decide (p.1 ≠ c.key))
  else if M.any (fun p => decide (p.1 = c.key)) = true then M.map (fun p => if p.1 = c.key then (c.key, c.val) else p) else M ++ [(c.key, c.val)]
def doM (M : List Pr) (l : List Chg) : List Pr := l.foldl upd M
/-- what a change leaves, whatever the order -/
def lft (M : List Pr) (c : Chg) : List Pr := M.filter (fun p => decide (p.1 ≠ c.key)) ++ (if c.del = true then [] else [(c.key, c.val)])
set_option maxRecDepth 100000 in
theorem filter_all {M : List Pr} {k : ByteArray} (h : ∀ p ∈ M, p.1 ≠ k) : M.filter (fun p => decide (p.1 ≠ k)) = M := List.filter_eq_self.2 fun p hp => by simpa using h p hp
set_option maxRecDepth 100000 in
theorem map_all {M : List Pr} {k : ByteArray} {v : List Int} (h : ∀ p ∈ M, p.1 ≠ k) : M.map (fun p => if p.1 = k then (k, v) else p) = M := by
  induction M with
  | nil => rfl
  | cons p t ih => rw [List.map_cons, if_neg (h p (by simp)), ih (fun q hq => h q (by simp [hq]))]
set_option maxRecDepth 100000 in
theorem upd_lft {M : List Pr} (hn : Nod M) (c : Chg) : (upd M c).Perm (lft M c) := by
  unfold upd lft
  by_cases hd : c.del = true
  · rw [if_pos hd, if_pos hd, List.append_nil]
  · rw [if_neg hd, if_neg hd]
    by_cases ha : M.any (fun p => decide (p.1 = c.key)) = true
    · rw [if_pos ha]
      induction M with
      | nil => simp at ha
      | cons p t ih =>
        have hp := List.pairwise_cons.1 hn
        by_cases e : p.1 = c.key
        · have hne : ∀ q ∈ t, q.1 ≠ c.key := fun q hq e2 => hp.1 q hq (e.trans e2.symm)
          rw [List.map_cons, if_pos e, map_all hne, List.filter_cons_of_neg (by simpa using e), filter_all hne]
          exact List.perm_append_comm (l₁ := [(c.key, c.val)])
        · rw [List.map_cons, if_neg e, List.filter_cons_of_pos (by simpa using e), List.cons_append]
          refine List.Perm.cons _ (ih hp.2 ?_)
          simpa [e] using ha
    · rw [if_neg ha, filter_all fun p hp e => ha (List.any_eq_true.2 ⟨p, hp, by simpa using e⟩)]
set_option maxRecDepth 100000 in
theorem lft_nod {M : List Pr} (hn : Nod M) (c : Chg) : Nod (lft M c) := by
  unfold lft
  refine List.pairwise_append.2 ⟨List.Pairwise.filter _ hn, ?_, fun p hp q hq => ?_⟩
  · split <;> simp
  · split at hq
    · simp at hq
    · simp at hp hq
      rw [hq]; exact hp.2
set_option maxRecDepth 100000 in
theorem upd_nod {M : List Pr} (hn : Nod M) (c : Chg) : Nod (upd M c) := (lft_nod hn c).perm (upd_lft hn c).symm
/-- a list by rising keys, and a map's entries, say the same -/
structure Rep (L M : List Pr) : Prop where
  s : Srt L
  p : L.Perm M
set_option maxRecDepth 100000 in
theorem Rep.nil : Rep [] [] := ⟨List.Pairwise.nil, List.Perm.refl _⟩
set_option maxRecDepth 100000 in
theorem Rep.nod {L M : List Pr} (h : Rep L M) : Nod M := h.s.nod.perm h.p
/-- how many bytes are used -/
def byM (M : List Pr) : Nat := (M.map fun p => p.1.size + p.2.length).sum
set_option maxRecDepth 100000 in
theorem byM_perm {L M : List Pr} (p : L.Perm M) : byM L = byM M := (p.map _).sum_nat
set_option maxRecDepth 100000 in
theorem byM_append (L M : List Pr) : byM (L ++ M) = byM L + byM M := by simp [byM]
set_option maxRecDepth 100000 in
theorem byM_cons (p : Pr) (M : List Pr) : byM (p :: M) = p.1.size + p.2.length + byM M := by simp [byM]
/-- how many a key uses -/
def byK (M : List Pr) (k : ByteArray) : Nat := match gtM M k with | some v => k.size + v.length | none => 0
set_option maxRecDepth 100000 in
theorem byM_filter {M : List Pr} (hn : Nod M) (k : ByteArray) : byM (M.filter (fun p => decide (p.1 ≠ k))) + byK M k = byM M := by
  induction M with
  | nil => simp [byM, byK, gtM]
  | cons p t ih =>
    have hp := List.pairwise_cons.1 hn
    by_cases e : p.1 = k
    · have hne : ∀ q ∈ t, q.1 ≠ k := fun q hq e2 => hp.1 q hq (e.trans e2.symm)
      rw [List.filter_cons_of_neg (by simpa using e), filter_all hne, byM_cons]
      have : byK (p :: t) k = p.1.size + p.2.length := by simp [byK, gtM, e]
      omega
    · rw [List.filter_cons_of_pos (by simpa using e), byM_cons, byM_cons]
      have : byK (p :: t) k = byK t k := by
        unfold byK gtM
        rw [List.find?_cons_of_neg (by simpa using e)]
      have := ih hp.2
      omega
/-- how many bytes more a change uses -/
def mo1 (M : List Pr) (c : Chg) : Int := (if c.del = true then 0 else (c.key.size : Int) + c.val.length) - byK M c.key
def moM (M : List Pr) (l : List Chg) : Int := (l.map (mo1 M)).sum
set_option maxRecDepth 100000 in
theorem byM_upd {M : List Pr} (hn : Nod M) (c : Chg) : (byM (upd M c) : Int) = byM M + mo1 M c := by
  rw [byM_perm (upd_lft hn c), lft, byM_append]
  have := byM_filter hn c.key
  unfold mo1
  split
  · have h0 : byM [] = 0 := rfl
    omega
  · have h0 : byM [(c.key, c.val)] = c.key.size + c.val.length := by simp [byM]
    omega
set_option maxRecDepth 100000 in
theorem gtM_upd {M : List Pr} (hn : Nod M) (c : Chg) {k : ByteArray} (h : k ≠ c.key) : gtM (upd M c) k = gtM M k := by
  rw [gtM_perm (upd_lft hn c) (upd_nod hn c)]
  have h2 : ∀ N : List Pr, gtM (N.filter (fun p => decide (p.1 ≠ c.key))) k = gtM N k := by
    intro N
    induction N with
    | nil => rfl
    | cons p t ih =>
      by_cases e : p.1 = c.key
      · rw [List.filter_cons_of_neg (by simpa using e), ih]
        unfold gtM
        rw [List.find?_cons_of_neg (by simp; rw [e]; exact fun hh => h hh.symm)]
      · rw [List.filter_cons_of_pos (by simpa using e)]
        by_cases e2 : p.1 = k
        · simp [gtM, e2]
        · unfold gtM at ih ⊢
          rw [List.find?_cons_of_neg (by simpa using e2), List.find?_cons_of_neg (by simpa using e2)]; exact ih
  rw [← h2 M]
  unfold lft gtM
  rw [List.find?_append]
  have h3 : (if c.del = true then [] else [(c.key, c.val)] : List Pr).find? (fun p => decide (p.1 = k)) = none := by
    split
    · rfl
    · simp; exact fun hh => h hh.symm
  rw [h3, Option.or_none]
set_option maxRecDepth 100000 in
theorem moM_upd {M : List Pr} (hn : Nod M) (c : Chg) (l : List Chg) (h : ∀ d ∈ l, c.key ≠ d.key) : moM (upd M c) l = moM M l := by
  unfold moM
  congr 1
  refine List.map_congr_left fun d hd => ?_
  unfold mo1 byK
  rw [gtM_upd hn c (fun e => h d hd e.symm)]
set_option maxRecDepth 100000 in
/-- **what is used behind changes** -/
theorem byM_do {M : List Pr} (hn : Nod M) (l : List Chg) (hp : l.Pairwise (fun a c => a.key ≠ c.key)) : (byM (doM M l) : Int) = byM M + moM M l := by
  induction l generalizing M with
  | nil => simp [doM, moM]
  | cons c t ih =>
    have h := List.pairwise_cons.1 hp
    have h1 := ih (upd_nod hn c) h.2
    rw [moM_upd hn c t h.1] at h1
    have h2 := byM_upd hn c
    have h3 : moM M (c :: t) = mo1 M c + moM M t := by simp [moM]
    have h4 : doM M (c :: t) = doM (upd M c) t := rfl
    rw [h4, h3]; omega
/-- what every store's entries are -/
structure MOk (M : List Pr) : Prop where
  nod : Nod M
  k1 : ∀ p ∈ M, 1 ≤ p.1.size
  k2 : ∀ p ∈ M, p.1.size ≤ 40
  v : ∀ p ∈ M, p.2.length ≤ 4096
set_option maxRecDepth 100000 in
theorem MOk.nil : MOk [] := ⟨List.Pairwise.nil, by simp, by simp, by simp⟩
set_option maxRecDepth 100000 in
theorem upd_mem {M : List Pr} (hn : Nod M) {c : Chg} {p : Pr} (h : p ∈ upd M c) : p ∈ M ∨ p = (c.key, c.val) := by
  have := (upd_lft hn c).subset h
  rcases List.mem_append.1 this with h1 | h1
  · exact .inl (List.mem_filter.1 h1).1
  · split at h1
    · simp at h1
    · exact .inr (by simpa using h1)
set_option maxRecDepth 100000 in
theorem MOk.upd {M : List Pr} (h : MOk M) {c : Chg} (hc : COk c) : MOk (upd M c) := by
  refine ⟨upd_nod h.nod c, ?_, ?_, ?_⟩
  · intro p hp; rcases upd_mem h.nod hp with h1 | rfl
    · exact h.k1 p h1
    · exact hc.k1
  · intro p hp; rcases upd_mem h.nod hp with h1 | rfl
    · exact h.k2 p h1
    · exact hc.k2
  · intro p hp; rcases upd_mem h.nod hp with h1 | rfl
    · exact h.v p h1
    · exact hc.v
set_option maxRecDepth 100000 in
theorem MOk.doM {M : List Pr} (h : MOk M) {l : List Chg} (hl : ∀ c ∈ l, COk c) : MOk (doM M l) := by
  induction l generalizing M with
  | nil => exact h
  | cons c t ih => exact ih (h.upd (hl c (by simp))) (fun d hd => hl d (by simp [hd]))
set_option maxRecDepth 100000 in
theorem upd_length (M : List Pr) (c : Chg) : (upd M c).length ≤ M.length + 1 := by
  unfold upd
  split
  · exact Nat.le_succ_of_le (List.length_filter_le _ _)
  · split <;> simp
set_option maxRecDepth 100000 in
theorem doM_length (M : List Pr) (l : List Chg) : (doM M l).length ≤ M.length + l.length := by
  induction l generalizing M with
  | nil => simp [doM]
  | cons c t ih =>
    have h1 := ih (upd M c)
    have h2 := upd_length M c
    have h3 : doM M (c :: t) = doM (upd M c) t := rfl
    rw [h3, List.length_cons]; omega
set_option maxRecDepth 100000 in
theorem byM_le {M : List Pr} (h : MOk M) : byM M ≤ 4136 * M.length := by
  have : ∀ N : List Pr, (∀ p ∈ N, p.1.size ≤ 40 ∧ p.2.length ≤ 4096) → byM N ≤ 4136 * N.length := by
    intro N
    induction N with
    | nil => simp [byM]
    | cons p t ih =>
      intro hh
      have h1 := hh p (by simp)
      have h2 := ih (fun q hq => hh q (by simp [hq]))
      rw [byM_cons, List.length_cons]; omega
  exact this M fun p hp => ⟨h.k2 p hp, h.v p hp⟩
/-- a text's changes done -/
def bkM (M : List Pr) (b : List Int) : List Pr := match decL b with | some l => doM M l | none => M
/-- what texts make of nothing -/
def mkM (T : List (List Int)) : List Pr := T.foldl bkM []
def TDec (T : List (List Int)) : Prop := ∀ b ∈ T, (decL b).isSome = true
end Go.Proofs.YtipakjenggeflaaGreatDoor
namespace Go.Proofs.YtipakjenggeflaaGreatDoor
open Go.RowKit
set_option linter.unusedVariables false

def okB (c : Int) : Bool := decide (33 ≤ c) && decide (c ≤ 126)
set_option maxRecDepth 100000 in
theorem strL_get (s : ByteArray) (i : Nat) (h : i < s.size) : (strL s)[i]? = some (sb s i) := by
  have h2 : i < s.data.toList.length := by rw [← Lib.size_eq]; exact h
  unfold strL sb
  rw [List.getElem?_map, List.getElem?_eq_getElem h2, List.getD_eq_getElem?_getD, List.getElem?_eq_getElem h2]; rfl
set_option maxRecDepth 100000 in
theorem all_sb (s : ByteArray) : (strL s).all okB = true ↔ ∀ j, j < s.size → okB (sb s j) = true := by
  rw [List.all_eq_true]
  constructor
  · intro h j hj
    exact h _ (List.mem_of_getElem? (strL_get s j hj))
  · intro h c hc
    obtain ⟨i, hi, e⟩ := List.getElem_of_mem hc
    have hi2 : i < s.size := by rw [← strL_length]; exact hi
    have := strL_get s i hi2
    rw [List.getElem?_eq_getElem hi, e] at this
    rw [Option.some.inj this]; exact h i hi2
set_option maxRecDepth 100000 in
theorem kOk_no {s : ByteArray} {k : Nat} (hk : k < s.size) (h : okB (sb s k) = false) : false = kOk s := by
  have : (strL s).all okB = false := by
    cases e : (strL s).all okB with
    | false => rfl
    | true => rw [(all_sb s).1 e k hk] at h; cases h
  have e2 : kOk s = ((strL s).all okB && (decide (1 ≤ s.size) && decide (s.size ≤ 40))) := rfl
  rw [e2, this]; rfl
set_option maxRecDepth 100000 in
theorem kOk_yes {s : ByteArray} (h : ∀ j, j < s.size → okB (sb s j) = true) : kOk s = (decide (1 ≤ s.size) && decide (s.size ≤ 40)) := by
  have e2 : kOk s = ((strL s).all okB && (decide (1 ≤ s.size) && decide (s.size ≤ 40))) := rfl
  rw [e2, (all_sb s).2 h]; rfl
set_option maxRecDepth 100000 in
theorem okB_step {s : ByteArray} {k : Nat} (h : ∀ j, j < k → okB (sb s j) = true) (hk : okB (sb s k) = true) : ∀ j, j < k + 1 → okB (sb s j) = true := by
  intro j hj
  by_cases e : j = k
  · rw [e]; exact hk
  · exact h j (by omega)
set_option maxHeartbeats 400000 in
theorem iskey_any (s : ByteArray) (w : World) (hs : s.size ≤ 9223372036854775807) :
    Calls Tryz.prog 283 #[.string s] w fun e w' => e = .returned (.bool (kOk s)) ∧ w = w' := by
  go_enter Tryz.func283, Tryz.ntmps283
  go_wp2_with fail
  go_loop [6] (fun i => ∃ k : Nat, k ≤ s.size ∧ i = .int .i64 k ∧ ∀ j, j < k → okB (sb s j) = true) (fun i => s.size - (intOf i).toNat)
  case atStart => exact ⟨0, Nat.zero_le _, rfl, fun j hj => by omega⟩
  case round =>
    obtain ⟨k, hk, rfl, hj⟩ := hrel
    have HJ : Hid (∀ j, j < k → okB (sb s j) = true) := hj
    clear hj
    by_cases hlt : k < s.size
    · have hki : (k : Int) < (s.size : Int) := by omega
      have hk0 : (0 : Int) ≤ (k : Int) := by omega
      have hsk : ∀ h, (((s[k]'h).toNat : Nat) : Int) = sb s k := fun h => sb_eq s k h
      cases hn : okB (sb s k) with
      | true =>
        have HN : Hid (okB (sb s k) = true) := hn
        have hn2 : 33 ≤ sb s k ∧ sb s k ≤ 126 := by simpa [okB] using hn
        have g1 : decide (sb s k < 33) = false := by simp; omega
        have g2 : decide (sb s k > 126) = false := by simp; omega
        clear hn hn2
        go_wp2_with fail
        go_round
        case rel => exact ⟨k + 1, by omega, by go_num, okB_step HJ.out HN.out⟩
        case measure => simp [intOf]; omega
      | false =>
        have HN : Hid (okB (sb s k) = false) := hn
        by_cases h1 : 33 ≤ sb s k
        · have h2 : ¬ sb s k ≤ 126 := fun h => by rw [show okB (sb s k) = true from by simp [okB]; omega] at hn; cases hn
          have g1 : decide (sb s k < 33) = false := by simp; omega
          have g2 : decide (sb s k > 126) = true := by simp; omega
          clear hn h1 h2
          go_wp2_with fail
          go_ret
          exact ⟨ret_bool (kOk_no hlt HN.out), rfl⟩
        · have g1 : decide (sb s k < 33) = true := by simp; omega
          clear hn h1
          go_wp2_with fail
          go_ret
          exact ⟨ret_bool (kOk_no hlt HN.out), rfl⟩
    · have hkn : k = s.size := by omega
      have HK : Hid (kOk s = (decide (1 ≤ s.size) && decide (s.size ≤ 40))) := kOk_yes (fun j hj => HJ.out j (by omega))
      have hki : ¬ (k : Int) < (s.size : Int) := by omega
      clear hkn HJ
      by_cases h1 : 1 ≤ s.size
      · have g1 : decide ((s.size : Int) ≥ 1) = true := by simp; omega
        by_cases h2 : s.size ≤ 40
        · have g2 : decide ((s.size : Int) ≤ 40) = true := by simp; omega
          have HE : Hid (kOk s = true) := HK.out.trans (by simp [h1, h2])
          clear h1 h2
          go_wp2_with fail
          all_goals (go_ret; exact ⟨ret_bool HE.out.symm, rfl⟩)
        · have g2 : decide ((s.size : Int) ≤ 40) = false := by simp; omega
          have HE : Hid (kOk s = false) := HK.out.trans (by simp [h2])
          clear h1 h2
          go_wp2_with fail
          all_goals (go_ret; exact ⟨ret_bool HE.out.symm, rfl⟩)
      · have g1 : decide ((s.size : Int) ≥ 1) = false := by simp; omega
        have HE : Hid (kOk s = false) := HK.out.trans (by simp [h1])
        clear h1
        go_wp2_with fail
        all_goals (go_ret; exact ⟨ret_bool HE.out.symm, rfl⟩)
end Go.Proofs.YtipakjenggeflaaGreatDoor
namespace Go.Proofs.YtipakjenggeflaaGreatDoor
open Go.RowKit
set_option linter.unusedVariables false

set_option maxRecDepth 100000 in
theorem bytes_low (w : World) (e : TypeId) (s : ByteArray) : Below w.heap.size w (Lib.bytesWorld w e s) :=
  ⟨rfl, rfl, rfl, by rw [Lib.bytesWorld_size]; omega, fun k hk => Lib.bytesWorld_at_old w e s k hk⟩
set_option maxRecDepth 100000 in
theorem bytes_bts (w : World) (s : ByteArray) (hs : s.size ≤ maxLen) : Bts (Lib.bytesWorld w 5 s) (some ⟨w.heap.size, 0, none⟩) s.size (grownCap w s.size 0 5) (strL s) := by
  refine ⟨strL_length s, strL_byt s, grownCap_ge _ _ _ _, grownCap_le_maxLen _ _ _ _ hs, (fun hh => by cases hh), fun _ => ⟨w.heap.size, 0, rfl, by rw [Lib.bytesWorld_size]; omega, fun i hi => ?_⟩⟩
  rw [Nat.zero_add, Lib.bytesWorld_cell w 5 s i hi, strL_getD s i hi]
set_option maxRecDepth 100000 in
/-- '[]byte(s)': new memory -/
theorem conv_bytes (w : World) (s : ByteArray) (hs : s.size ≤ maxLen) : ∃ c w2, (convert 9 34 (.string s)).run Tryz.prog w = .ok (.slice (some ⟨w.heap.size, 0, none⟩) s.size c) w2 ∧ Below w.heap.size w w2 ∧ Bts w2 (some ⟨w.heap.size, 0, none⟩) s.size c (strL s) :=
  ⟨_, _, Lib.run_convert_string_bytes (P := Tryz.prog) w 9 34 5 s Tryz.underlying9 Tryz.underlying34 Tryz.underlying5, bytes_low w _ s, bytes_bts w s hs⟩
end Go.Proofs.YtipakjenggeflaaGreatDoor
