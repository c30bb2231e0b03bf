/- Texts as lists of bytes, bytes as texts. No walk. What Hex answers, the program's and the document's. bytes as a text, and bytes.Equal. What lines say; that letters of names change nothing. No walk. -/
import Derived.Test.YtpfijaojgeceeaaGreatDoorCut
import Derived.Lib.Strings
import Derived.Laws.BitsAllLaws
import Derived.Laws.IdiomStrings
import Derived.Lib.SlicesS
import Derived.Test.YtpfijaojgeceeaaGreatDoorTBase
import Derived.Test.YtpfijaojgeceeaaGreatDoorAuan
namespace Go.Proofs.YtpfijaojgeceeaaGreatDoor
open Go.RowKit
set_option linter.unusedVariables false

/-- the text that a list of bytes is -/
def strOf (l : List Int) : ByteArray := ⟨(l.map fun c => UInt8.ofNat c.toNat).toArray⟩
set_option maxRecDepth 100000 in
theorem strOf_inj : ∀ {l m : List Int}, Byt l → Byt m → strOf l = strOf m → l = m := by
  intro l m hl hm h
  have h1 : (l.map fun c => UInt8.ofNat c.toNat) = m.map fun c => UInt8.ofNat c.toNat := by
    have := congrArg ByteArray.data h
    simpa [strOf] using this
  have hlen : l.length = m.length := by have := congrArg List.length h1; simpa using this
  apply List.ext_getElem?
  intro i
  by_cases hi : i < l.length
  · have e := congrArg (·[i]?) h1
    simp only [List.getElem?_map, List.getElem?_eq_getElem hi, List.getElem?_eq_getElem (show i < m.length by omega), Option.map_some, Option.some.injEq] at e
    have b1 := hl _ (List.getElem_mem hi)
    have b2 := hm _ (List.getElem_mem (show i < m.length by omega))
    have e2 := congrArg UInt8.toNat e
    simp only [UInt8.toNat_ofNat'] at e2
    rw [List.getElem?_eq_getElem hi, List.getElem?_eq_getElem (show i < m.length by omega)]
    congr 1
    omega
  · rw [List.getElem?_eq_none (by omega), List.getElem?_eq_none (by omega)]
set_option maxRecDepth 100000 in
theorem fold_push : ∀ (l : List Int) (r : ByteArray), l.foldl (fun r n => r.push (UInt8.ofNat n.toNat)) r = ⟨r.data ++ (l.map fun c => UInt8.ofNat c.toNat).toArray⟩
  | [], r => by simp
  | b :: l, r => by rw [List.foldl_cons, fold_push l]; simp [ByteArray.push]
set_option maxRecDepth 100000 in
/-- 'string(b)' of bytes that read as a list -/
theorem Bts.str {w : World} {a : Option Addr} {len cap : Nat} {l : List Int} (h : Bts w a len cap l) : (convert 22 9 (.slice a len cap)).run Tryz.prog w = .ok (.string (strOf l)) w := by
  rw [run_convert_bytes_string w _ _ 5 a len cap Tryz.underlying22 Tryz.underlying5 Tryz.underlying9]
  cases a with
  | none =>
    have h1 := h.nil rfl
    have h2 := h.le_cap
    have h3 := h.len_eq
    obtain rfl : l = [] := List.eq_nil_of_length_eq_zero (by omega)
    rfl
  | some ad =>
    have hl := run_loadCells_list (P := Tryz.prog) w ad (bv l) h.cells
    rw [bv_length, h.len_eq] at hl
    rw [run_bytesToString w ad len cap l hl, fold_push]
    have he0 : ByteArray.empty.data = #[] := rfl
    rw [he0]
    simp [strOf]
/-- a text's bytes -/
def strL (s : ByteArray) : List Int := s.data.toList.map (fun b => (b.toNat : Int))
set_option maxRecDepth 100000 in
theorem strL_length (s : ByteArray) : (strL s).length = s.size := by rw [strL, List.length_map]; rfl
set_option maxRecDepth 100000 in
theorem strL_byt (s : ByteArray) : Byt (strL s) := by
  intro c hc
  obtain ⟨b, _, rfl⟩ := List.mem_map.1 hc
  have := b.toNat_lt
  omega
set_option maxRecDepth 100000 in
theorem strOf_strL (s : ByteArray) : strOf (strL s) = s := by
  obtain ⟨d⟩ := s
  simp only [strOf, strL, List.map_map, ByteArray.mk.injEq]
  have e : ((fun c : Int => UInt8.ofNat c.toNat) ∘ fun b : UInt8 => (b.toNat : Int)) = id := by
    funext b
    simp
  rw [e]; simp
set_option maxRecDepth 100000 in
theorem strL_inj {s t : ByteArray} (h : strL s = strL t) : s = t := by rw [← strOf_strL s, h, strOf_strL]
set_option maxRecDepth 100000 in
theorem strOf_size (l : List Int) : (strOf l).size = l.length := by simp [strOf, ByteArray.size]
set_option maxRecDepth 100000 in
theorem strL_strOf {l : List Int} (h : Byt l) : strL (strOf l) = l := strOf_inj (strL_byt _) h (strOf_strL _)
set_option maxRecDepth 100000 in
theorem strL_len (s : ByteArray) : (strL s).length = s.size := by simp [strL]
set_option maxRecDepth 100000 in
theorem strL_getD (s : ByteArray) (j : Nat) (hj : j < s.size) : (strL s).getD j 0 = ((s.data.toList.getD j 0).toNat : Int) := by
  have h : j < s.data.toList.length := by simpa using hj
  simp only [strL, List.getD_eq_getElem?_getD, List.getElem?_map, List.getElem?_eq_getElem h, Option.map_some, Option.getD_some]
set_option maxRecDepth 100000 in
theorem strOf_append (a b : List Int) : strOf (a ++ b) = strOf a ++ strOf b := by
  rw [← Lib.mk_data (strOf a ++ strOf b), ← Lib.mk_data (strOf (a ++ b))]; simp [strOf]
end Go.Proofs.YtpfijaojgeceeaaGreatDoor
namespace Go.Proofs.YtpfijaojgeceeaaGreatDoor
open Go.RowKit
set_option linter.unusedVariables false

/-- the sixteen letters -/
def hexS : ByteArray := ⟨#[48, 49, 50, 51, 52, 53, 54, 55, 56, 57, 97, 98, 99, 100, 101, 102]⟩
/-- the letter of a number below sixteen -/
def hx (n : Nat) : Int := sb hexS n
/-- the letters of bytes -/
def hexL (b : List Int) : List Int := b.flatMap fun c => [hx (c.toNat / 16), hx (c.toNat % 16)]
set_option maxRecDepth 100000 in
theorem hx_byt (n : Nat) : 0 ≤ hx n ∧ hx n ≤ 255 := sb_byt _ _
set_option maxRecDepth 100000 in
theorem hexL_append (a b : List Int) : hexL (a ++ b) = hexL a ++ hexL b := by simp [hexL]
set_option maxRecDepth 100000 in
theorem hexL_length (b : List Int) : (hexL b).length = 2 * b.length := by
  induction b with
  | nil => rfl
  | cons c b ih => rw [show c :: b = [c] ++ b from rfl, hexL_append, List.length_append, ih]; simp [hexL]; omega
set_option maxRecDepth 100000 in
theorem hexL_byt (b : List Int) : Byt (hexL b) := by
  intro c hc
  simp only [hexL, List.mem_flatMap] at hc
  obtain ⟨d, _, h⟩ := hc
  simp at h
  rcases h with rfl | rfl <;> exact hx_byt _
set_option maxRecDepth 100000 in
theorem hexL_more (b : List Int) (k : Nat) (h : k < b.length) : hexL (b.take (k + 1)) = hexL (b.take k) ++ [hx ((b.getD k 0).toNat / 16), hx ((b.getD k 0).toNat % 16)] := by
  rw [take_succ_getD b k h, hexL_append]; simp [hexL]
end Go.Proofs.YtpfijaojgeceeaaGreatDoor
namespace Go.Proofs.YtpfijaojgeceeaaGreatDoor
open Go.RowKit
set_option linter.unusedVariables false

set_option maxRecDepth 100000 in
theorem beq_any (a b : Option Addr) (n m c d : Nat) (la lb : List Int) (w : World) (ha : Bts w a n c la) (hb : Bts w b m d lb) :
    Calls Tryz.prog 27 #[.slice a n c, .slice b m d] w fun e w' => e = .returned (.bool (decide (la = lb))) ∧ w = w' := by
  have h1 := ha.str
  have h2 := hb.str
  have HQ : Hid (((strOf la).toList == (strOf lb).toList) = decide (la = lb)) := by
    show _ = _
    by_cases h : la = lb
    · rw [decide_eq_true h]
      exact (Lib.bytes_beq_iff _ _).2 (by rw [h])
    · rw [decide_eq_false h]
      exact (Lib.bytes_beq_false_iff _ _).2 (fun e => h (strOf_inj ha.byt hb.byt e))
  clear ha hb
  generalize strOf la = sa at h1 HQ
  generalize strOf lb = sb at h2 HQ
  go_enter Tryz.func27, Tryz.ntmps27
  go_wp2
  go_ret
  exact ⟨ret_bool HQ.out, rfl⟩
end Go.Proofs.YtpfijaojgeceeaaGreatDoor
namespace Go.Proofs.YtpfijaojgeceeaaGreatDoor
open Go.RowKit
set_option linter.unusedVariables false

/-- a small letter -/
def lowB (c : Int) : Int := if 65 ≤ c ∧ c ≤ 90 then c + 32 else c
/-- a byte of a name -/
def letB (c : Int) : Bool := decide (lowB c = 45) || (decide (97 ≤ lowB c) && decide (lowB c ≤ 122))
/-- pieces -/
def pcsI (c : Int) : List Int → List (List Int)
  | [] => [[]]
  | b :: r => if b = c then [] :: pcsI c r else match pcsI c r with | p :: ps => (b :: p) :: ps | [] => [[b]]
def getM : List Int := [71, 69, 84]
def postM : List Int := [80, 79, 83, 84]
def putM : List Int := [80, 85, 84]
def versM : List Int := [72, 84, 84, 80, 47, 49, 46, 49]
/-- a byte of a target -/
def tgC (c : Int) : Bool := (decide (97 ≤ c) && decide (c ≤ 122)) || ((decide (48 ≤ c) && decide (c ≤ 57)) || (decide (c = 45) || decide (c = 47)))
def tgB (t : List Int) : Bool := decide (1 ≤ t.length) && (decide (t.length ≤ 64) && (decide (t.getD 0 0 = 47) && t.all tgC))
/-- the first line -/
def fstV (l : List Int) : Option (ByteArray × ByteArray) :=
  match pcsI 32 l with
  | [m, t, v] => if v = versM ∧ (m = getM ∨ m = postM ∨ m = putM) ∧ tgB t = true then some (strOf m, strOf t) else none
  | _ => none
/-- where the colon is -/
def colI : List Int → Nat
  | [] => 0
  | c :: r => if c = 58 then 0 else colI r + 1
/-- where a line's name ends -/
def namI (l : List Int) : Option Nat := if (l.take (colI l)).all letB = true ∧ 1 ≤ colI l ∧ colI l ≤ 32 ∧ colI l + 1 < l.length ∧ l.getD (colI l + 1) 0 = 32 then some (colI l) else none
def authN : List Int := [97, 117, 116, 104, 111, 114, 105, 122, 97, 116, 105, 111, 110]
def encN : List Int := [116, 114, 97, 110, 115, 102, 101, 114, 45, 101, 110, 99, 111, 100, 105, 110, 103]
def lenN : List Int := [99, 111, 110, 116, 101, 110, 116, 45, 108, 101, 110, 103, 116, 104]
def bearV : List Int := [66, 101, 97, 114, 101, 114, 32]
def chkV : List Int := [99, 104, 117, 110, 107, 101, 100]
/-- a name and a value -/
def sayV (h : HD) (name value : List Int) : HD × Int :=
  if name = authN then (if h.auth = true ∨ value.take 7 ≠ bearV then (h, 4) else ({ h with auth := true, k := strOf (value.drop 7) }, 0)) else
  if name = encN then (if h.len = true ∨ h.enc = true ∨ value ≠ chkV then (h, 4) else ({ h with enc := true }, 0)) else
  if name = lenN then (if h.len = true ∨ h.enc = true then (h, 4) else match rdD value with | none => (h, 4) | some n => if 9223372036854775807 < n then (h, 4) else if 2048 < n then (h, 5) else ({ h with len := true, n := n }, 0)) else (h, 0)
/-- a further line -/
def furV (h : HD) (l : List Int) : HD × Int :=
  match namI l with
  | none => (h, 4)
  | some i => sayV h ((l.take i).map lowB) (l.drop (i + 2))
def wp0 : WP := ⟨fstV, furV⟩

/-- two lines that are the same but for letters of the name -/
def csL : List Int → List Int → Prop
  | [], [] => True
  | a :: r, b :: s => if a = 58 then b = 58 ∧ r = s else b ≠ 58 ∧ lowB a = lowB b ∧ csL r s
  | _, _ => False
set_option maxRecDepth 100000 in
theorem csL_refl : ∀ l, csL l l
  | [] => trivial
  | a :: r => by
    show (if a = 58 then _ else _)
    split
    · exact ⟨by assumption, rfl⟩
    · exact ⟨by assumption, rfl, csL_refl r⟩
set_option maxRecDepth 100000 in
theorem csL_len : ∀ {l m : List Int}, csL l m → l.length = m.length
  | [], [], _ => rfl
  | [], _ :: _, h => h.elim
  | _ :: _, [], h => h.elim
  | a :: r, b :: s, h => by
    by_cases ha : a = 58
    · have h2 : b = 58 ∧ r = s := by simpa only [csL, if_pos ha] using h
      rw [h2.2]; rfl
    · have h2 : b ≠ 58 ∧ lowB a = lowB b ∧ csL r s := by simpa only [csL, if_neg ha] using h
      rw [List.length_cons, List.length_cons, csL_len h2.2.2]
set_option maxRecDepth 100000 in
theorem csL_facts : ∀ {l m : List Int}, csL l m → colI l = colI m ∧ (l.take (colI l)).map lowB = (m.take (colI m)).map lowB ∧ l.drop (colI l) = m.drop (colI m)
  | [], [], _ => ⟨rfl, rfl, rfl⟩
  | [], _ :: _, h => h.elim
  | _ :: _, [], h => h.elim
  | a :: r, b :: s, h => by
    by_cases ha : a = 58
    · have h2 : b = 58 ∧ r = s := by simpa only [csL, if_pos ha] using h
      obtain ⟨rfl, rfl⟩ := h2
      subst ha
      exact ⟨rfl, rfl, rfl⟩
    · have h2 : b ≠ 58 ∧ lowB a = lowB b ∧ csL r s := by simpa only [csL, if_neg ha] using h
      obtain ⟨e1, e2, e3⟩ := csL_facts h2.2.2
      have c1 : colI (a :: r) = colI r + 1 := by show (if a = 58 then _ else _) = _; rw [if_neg ha]
      have c2 : colI (b :: s) = colI s + 1 := by show (if b = 58 then _ else _) = _; rw [if_neg h2.1]
      rw [c1, c2]
      refine ⟨by rw [e1], ?_, ?_⟩
      · rw [List.take_succ_cons, List.take_succ_cons, List.map_cons, List.map_cons, e2, h2.2.1]
      · rw [List.drop_succ_cons, List.drop_succ_cons, e3]
set_option maxRecDepth 100000 in
theorem all_low (l : List Int) : l.all letB = (l.map lowB).all (fun d => decide (d = 45) || (decide (97 ≤ d) && decide (d ≤ 122))) := by
  rw [List.all_map]; rfl
set_option maxRecDepth 100000 in
theorem furV_case {l m : List Int} (h : csL l m) (d : HD) : furV d l = furV d m := by
  obtain ⟨e1, e2, e3⟩ := csL_facts h
  have hl := csL_len h
  have e4 : ∀ j, l.drop (colI l + j) = m.drop (colI m + j) := fun j => by rw [← List.drop_drop, ← List.drop_drop, e3]
  have e5 : l.getD (colI l + 1) 0 = m.getD (colI m + 1) 0 := by
    have h1 := congrArg (fun q : List Int => q[0]?) (e4 1)
    simp only [List.getElem?_drop, Nat.add_zero] at h1
    rw [List.getD_eq_getElem?_getD, List.getD_eq_getElem?_getD, h1]
  have hn : namI l = namI m := by unfold namI; rw [all_low, all_low, e2, e1, hl, ← e5, e1]
  unfold furV
  rw [hn]
  cases hi : namI m with
  | none => rfl
  | some i =>
    have hc : colI m = i := by
      unfold namI at hi
      split at hi
      · cases hi; rfl
      · cases hi
    simp only []
    have e6 := e4 2
    rw [e1] at e2 e6
    rw [← hc, e6, e2]
set_option maxRecDepth 100000 in
theorem csL_snoc : ∀ {l m : List Int} {a b : Int}, csL l m → ((58 ∈ l ∧ a = b) ∨ (58 ∉ l ∧ lowB a = lowB b ∧ (a = 58 ↔ b = 58))) → csL (l ++ [a]) (m ++ [b])
  | [], [], a, b, _, h => by
    rcases h with ⟨h, _⟩ | ⟨_, h1, h2⟩
    · simp at h
    · show (if a = 58 then _ else _)
      split
      · rename_i ha; exact ⟨h2.1 ha, rfl⟩
      · rename_i ha; exact ⟨fun hb => ha (h2.2 hb), h1, trivial⟩
  | [], _ :: _, _, _, h, _ => h.elim
  | _ :: _, [], _, _, h, _ => h.elim
  | x :: r, y :: s, a, b, h, hab => by
    rw [List.cons_append, List.cons_append]
    by_cases hx : x = 58
    · have h2 : y = 58 ∧ r = s := by simpa only [csL, if_pos hx] using h
      show (if x = 58 then _ else _)
      rw [if_pos hx]
      refine ⟨h2.1, ?_⟩
      rcases hab with ⟨_, e⟩ | ⟨hn, _⟩
      · rw [h2.2, e]
      · exact absurd (by rw [hx]; simp) hn
    · have h2 : y ≠ 58 ∧ lowB x = lowB y ∧ csL r s := by simpa only [csL, if_neg hx] using h
      show (if x = 58 then _ else _)
      rw [if_neg hx]
      refine ⟨h2.1, h2.2.1, csL_snoc h2.2.2 ?_⟩
      rcases hab with ⟨hm, e⟩ | ⟨hn, e⟩
      · exact .inl ⟨by rcases List.mem_cons.1 hm with h | h; exact absurd h.symm hx; exact h, e⟩
      · exact .inr ⟨fun hm => hn (List.mem_cons_of_mem _ hm), e⟩
set_option maxRecDepth 100000 in
theorem low_cases {a b : Int} (h : lowB a = lowB b) : a = b ∨ ((65 ≤ a ∧ a ≤ 90 ∨ 97 ≤ a ∧ a ≤ 122) ∧ (65 ≤ b ∧ b ≤ 90 ∨ 97 ≤ b ∧ b ≤ 122)) := by
  unfold lowB at h
  split at h <;> split at h <;> omega
set_option maxRecDepth 100000 in
theorem csL_last {l m : List Int} (h : csL l m) : bhd l = bhd m := by
  induction l generalizing m with
  | nil =>
    cases m with
    | nil => rfl
    | cons _ _ => exact h.elim
  | cons a r ih =>
    cases m with
    | nil => exact h.elim
    | cons b s =>
      by_cases ha : a = 58
      · have h2 : b = 58 ∧ r = s := by simpa only [csL, if_pos ha] using h
        rw [h2.1, h2.2, ha]
      · have h2 : b ≠ 58 ∧ lowB a = lowB b ∧ csL r s := by simpa only [csL, if_neg ha] using h
        cases r with
        | nil =>
          cases s with
          | nil =>
            unfold bhd
            simp only [List.getLast?_singleton, Option.some.injEq]
            have : (a = 13) = (b = 13) := by
              rcases low_cases h2.2.1 with e | e
              · rw [e]
              · rw [eq_iff_iff]; omega
            simp only [this]
          | cons _ _ => exact h2.2.2.elim
        | cons a2 r2 =>
          cases s with
          | nil => exact h2.2.2.elim
          | cons b2 s2 =>
            have := ih h2.2.2
            unfold bhd at this ⊢
            rw [List.getLast?_cons_cons, List.getLast?_cons_cons]; exact this
set_option maxRecDepth 100000 in
theorem csL_init : ∀ {l m : List Int}, csL l m → csL l.dropLast m.dropLast
  | [], [], _ => trivial
  | [], _ :: _, h => h.elim
  | _ :: _, [], h => h.elim
  | [a], [b], _ => trivial
  | [a], b :: c :: s, h => by have := csL_len h; simp at this
  | a :: c :: r, [b], h => by have := csL_len h; simp at this
  | a :: a2 :: r, b :: b2 :: s, h => by
    rw [List.dropLast_cons_cons, List.dropLast_cons_cons]
    by_cases ha : a = 58
    · have h2 : b = 58 ∧ a2 :: r = b2 :: s := by simpa only [csL, if_pos ha] using h
      show (if a = 58 then _ else _)
      rw [if_pos ha, h2.2]; exact ⟨h2.1, rfl⟩
    · have h2 : b ≠ 58 ∧ lowB a = lowB b ∧ csL (a2 :: r) (b2 :: s) := by
        have h3 := h
        unfold csL at h3
        rw [if_neg ha] at h3
        exact h3
      show (if a = 58 then _ else _)
      rw [if_neg ha]
      exact ⟨h2.1, h2.2.1, csL_init h2.2.2⟩
set_option maxRecDepth 100000 in
theorem csL_nil {l m : List Int} (h : csL l m) : (l = []) = (m = []) := by
  have := csL_len h
  rw [eq_iff_iff]
  constructor
  · intro e; exact List.eq_nil_of_length_eq_zero (by rw [← this, e]; rfl)
  · intro e; exact List.eq_nil_of_length_eq_zero (by rw [this, e]; rfl)
/-- two readers that are the same but for letters of the name -/
def smQ : WS → WS → Prop
  | .head h l c u, .head h' l' c' u' => h = h' ∧ l = l' ∧ c = c' ∧ csL u u' ∧ (l = 0 → u = u')
  | .fix h n u, .fix h' n' u' => h = h' ∧ n = n' ∧ u = u'
  | .chk h c, .chk h' c' => h = h' ∧ c = c'
  | .done x, .done y => x = y
  | _, _ => False
set_option maxRecDepth 100000 in
theorem smQ_refl : ∀ s, smQ s s
  | .head _ _ _ u => ⟨rfl, rfl, rfl, csL_refl u, fun _ => rfl⟩
  | .fix _ _ _ => ⟨rfl, rfl, rfl⟩
  | .chk _ _ => ⟨rfl, rfl⟩
  | .done _ => rfl
/-- which two bytes may come -/
def rlB (s : WS) (a b : Int) : Prop := match s with | .head _ l _ u => if l = 0 ∨ 58 ∈ u then a = b else lowB a = lowB b ∧ (a = 58 ↔ b = 58) | _ => a = b
set_option maxRecDepth 100000 in
theorem sm_wst {s t : WS} {a b : Int} (h : smQ s t) (hr : rlB s a b) : (wst wp0 s a).2 = (wst wp0 t b).2 ∧ smQ (wst wp0 s a).1 (wst wp0 t b).1 := by
  cases s with
  | done x =>
    cases t with
    | done y => obtain rfl : x = y := h; exact ⟨rfl, rfl⟩
    | head _ _ _ _ => exact h.elim
    | fix _ _ _ => exact h.elim
    | chk _ _ => exact h.elim
  | fix hd n u =>
    cases t with
    | fix _ _ _ =>
      obtain ⟨rfl, rfl, rfl⟩ := h
      obtain rfl : a = b := hr
      exact ⟨rfl, smQ_refl _⟩
    | head _ _ _ _ => exact h.elim
    | done _ => exact h.elim
    | chk _ _ => exact h.elim
  | chk hd c =>
    cases t with
    | chk _ _ =>
      obtain ⟨rfl, rfl⟩ := h
      obtain rfl : a = b := hr
      exact ⟨rfl, smQ_refl _⟩
    | head _ _ _ _ => exact h.elim
    | done _ => exact h.elim
    | fix _ _ _ => exact h.elim
  | head hd l c u =>
    cases t with
    | done _ => exact h.elim
    | fix _ _ _ => exact h.elim
    | chk _ _ => exact h.elim
    | head hd2 l2 c2 v =>
      obtain ⟨rfl, rfl, rfl, hu, h0⟩ := h
      have hab : a = b ∨ ((65 ≤ a ∧ a ≤ 90 ∨ 97 ≤ a ∧ a ≤ 122) ∧ (65 ≤ b ∧ b ≤ 90 ∨ 97 ≤ b ∧ b ≤ 122)) := by
        have hr1 : (if l = 0 ∨ 58 ∈ u then a = b else lowB a = lowB b ∧ (a = 58 ↔ b = 58)) := hr
        by_cases hq : l = 0 ∨ 58 ∈ u
        · rw [if_pos hq] at hr1; exact .inl hr1
        · rw [if_neg hq] at hr1; exact low_cases hr1.1
      have hb := csL_last hu
      simp only [wst]
      by_cases h1 : 1024 ≤ c
      · rw [if_pos h1, if_pos h1]; exact ⟨rfl, rfl, rfl, rfl, hu, h0⟩
      · rw [if_neg h1, if_neg h1]
        have h10 : (bhd u = true ∧ a = 10) = (bhd v = true ∧ b = 10) := by
          rw [hb]
          rcases hab with e | e
          · rw [e]
          · have : a ≠ 10 ∧ b ≠ 10 := by omega
            simp [this.1, this.2]
        have hbad : badB u a = badB v b := by
          unfold badB
          rw [hb]
          rcases hab with e | e
          · rw [e]
          · have e1 : decide (a = 10) = decide (b = 10) := by rw [decide_eq_false (by omega), decide_eq_false (by omega)]
            have e2 : (decide (a < 32) || decide (127 ≤ a)) = (decide (b < 32) || decide (127 ≤ b)) := by rw [decide_eq_false (by omega), decide_eq_false (by omega), decide_eq_false (by omega), decide_eq_false (by omega)]
            have e3 : decide (a ≠ 13) = decide (b ≠ 13) := by rw [decide_eq_true (by omega), decide_eq_true (by omega)]
            rw [e1, e2, e3]
        by_cases h2 : bhd u = true ∧ a = 10
        · have h2' : bhd v = true ∧ b = 10 := by rw [← h10]; exact h2
          rw [if_pos h2, if_pos h2']
          have hi := csL_init hu
          unfold eol
          by_cases hl : l = 0
          · rw [if_pos hl, if_pos hl, h0 hl]
            exact ⟨rfl, smQ_refl _⟩
          · rw [if_neg hl, if_neg hl]
            have hn := csL_nil hi
            by_cases h3 : u.dropLast = []
            · have h3' : v.dropLast = [] := by rw [← hn]; exact h3
              rw [if_pos h3, if_pos h3']; exact ⟨rfl, smQ_refl _⟩
            · have h3' : ¬ v.dropLast = [] := by rw [← hn]; exact h3
              rw [if_neg h3, if_neg h3']
              split
              · exact ⟨rfl, rfl, rfl, rfl, hi, fun e => absurd e hl⟩
              · have hg : wp0.G hd u.dropLast = wp0.G hd v.dropLast := furV_case hi hd
                rw [hg]
                exact ⟨rfl, smQ_refl _⟩
        · have h2' : ¬ (bhd v = true ∧ b = 10) := by rw [← h10]; exact h2
          rw [if_neg h2, if_neg h2', hbad]
          split
          · exact ⟨rfl, rfl, rfl, rfl, hu, h0⟩
          · refine ⟨rfl, rfl, rfl, rfl, csL_snoc hu ?_, fun hl => ?_⟩
            · by_cases h5 : 58 ∈ u
              · left
                have hr1 : (if l = 0 ∨ 58 ∈ u then a = b else lowB a = lowB b ∧ (a = 58 ↔ b = 58)) := hr
                rw [if_pos (.inr h5)] at hr1
                exact ⟨h5, hr1⟩
              · right
                refine ⟨h5, ?_⟩
                have hr1 : (if l = 0 ∨ 58 ∈ u then a = b else lowB a = lowB b ∧ (a = 58 ↔ b = 58)) := hr
                by_cases hq : l = 0 ∨ 58 ∈ u
                · rw [if_pos hq] at hr1; rw [hr1]; exact ⟨rfl, Iff.rfl⟩
                · rw [if_neg hq] at hr1; exact hr1
            · have hr2 : (if l = 0 ∨ 58 ∈ u then a = b else lowB a = lowB b ∧ (a = 58 ↔ b = 58)) := hr
              rw [if_pos (.inl hl)] at hr2
              rw [h0 hl, hr2]
/-- bytes that may come, one by one -/
def okC : WS → List Int → List Int → Prop
  | _, [], [] => True
  | s, a :: r, b :: t => rlB s a b ∧ ((wst wp0 s a).2 = 0 → okC (wst wp0 s a).1 r t)
  | _, _, _ => False
set_option maxRecDepth 100000 in
theorem sm_over {s t : WS} (h : smQ s t) : s.over = t.over := by
  cases s <;> cases t <;> first | rfl | exact h.elim
set_option maxRecDepth 100000 in
theorem run_case : ∀ (l m : List Int) (s t : WS) (k : Nat), smQ s t → okC s l m → runQ wp0 s l k = runQ wp0 t m k
  | [], [], s, t, k, h, _ => by
    have ho := sm_over h
    rcases runQ_end wp0 s k with ⟨g1, g2⟩ | ⟨x, rfl, g2⟩
    · rw [g2, runQ_nil wp0 (by rw [← ho]; exact g1)]
    · cases t with
      | done y => obtain rfl : x = y := h; rfl
      | head _ _ _ _ => exact h.elim
      | fix _ _ _ => exact h.elim
      | chk _ _ => exact h.elim
  | [], _ :: _, _, _, _, _, h => h.elim
  | _ :: _, [], _, _, _, _, h => h.elim
  | a :: r, b :: r2, s, t, k, h, hok => by
    have ho := sm_over h
    cases hs : s.over with
    | true =>
      cases s with
      | done x =>
        cases t with
        | done y => obtain rfl : x = y := h; rw [runQ_done, runQ_done]
        | head _ _ _ _ => exact h.elim
        | fix _ _ _ => exact h.elim
        | chk _ _ => exact h.elim
      | head _ _ _ _ => cases hs
      | fix _ _ _ => cases hs
      | chk _ _ => cases hs
    | false =>
      obtain ⟨e1, e2⟩ := sm_wst h hok.1
      rw [runQ_cons wp0 hs, runQ_cons wp0 (by rw [← ho]; exact hs), e1]
      by_cases h1 : (wst wp0 t b).2 ≠ 0
      · rw [if_pos h1, if_pos h1]
      · rw [if_neg h1, if_neg h1]
        exact run_case r r2 _ _ _ e2 (hok.2 (by rw [e1]; simpa using h1))
end Go.Proofs.YtpfijaojgeceeaaGreatDoor
