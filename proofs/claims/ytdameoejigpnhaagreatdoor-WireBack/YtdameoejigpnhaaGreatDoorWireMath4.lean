/- Numbers in ten digits; answers, written and read. No walk. -/
import Derived.Test.YtdameoejigpnhaaGreatDoorBase
namespace Go.Proofs.YtdameoejigpnhaaGreatDoor
open Go.RowKit
set_option linter.unusedVariables false

/-- a number's digits -/
def decF : Nat → Nat → List Int
  | 0, _ => []
  | f + 1, n => if n < 10 then [48 + (n : Int)] else decF f (n / 10) ++ [48 + ((n % 10 : Nat) : Int)]
def decN (n : Nat) : List Int := decF (n + 1) n
set_option maxRecDepth 100000 in
theorem decF_enough : ∀ (f g n : Nat), n < f → n < g → decF f n = decF g n
  | 0, _, n, h, _ => by omega
  | _ + 1, 0, n, _, h => by omega
  | f + 1, g + 1, n, h1, h2 => by
    unfold decF
    by_cases h : n < 10
    · rw [if_pos h, if_pos h]
    · rw [if_neg h, if_neg h, decF_enough f g (n / 10) (by omega) (by omega)]
set_option maxRecDepth 100000 in
theorem decN_lt {n : Nat} (h : n < 10) : decN n = [48 + (n : Int)] := by unfold decN decF; rw [if_pos h]
set_option maxRecDepth 100000 in
theorem decN_ge {n : Nat} (h : ¬ n < 10) : decN n = decN (n / 10) ++ [48 + ((n % 10 : Nat) : Int)] := by
  show (if n < 10 then _ else _) = _
  rw [if_neg h]
  unfold decN
  rw [decF_enough n (n / 10 + 1) (n / 10) (by omega) (by omega)]
def dig (c : Int) : Bool := decide (48 ≤ c) && decide (c ≤ 57)
set_option maxRecDepth 100000 in
theorem decN_dig (n : Nat) : ∀ c ∈ decN n, dig c = true := by
  induction n using Nat.strongRecOn with
  | _ n ih =>
    intro c hc
    by_cases h : n < 10
    · rw [decN_lt h] at hc
      simp only [List.mem_cons, List.not_mem_nil, or_false] at hc
      rw [hc]; unfold dig; simp; omega
    · rw [decN_ge h] at hc
      rcases List.mem_append.1 hc with h1 | h1
      · exact ih (n / 10) (by omega) c h1
      · simp only [List.mem_cons, List.not_mem_nil, or_false] at h1
        rw [h1]; unfold dig; simp; omega
set_option maxRecDepth 100000 in
theorem decN_pos (n : Nat) : 1 ≤ (decN n).length := by
  by_cases h : n < 10
  · rw [decN_lt h]; simp
  · rw [decN_ge h]; simp
set_option maxRecDepth 100000 in
theorem decN_byt (n : Nat) : Byt (decN n) := fun c hc => by have := decN_dig n c hc; unfold dig at this; simp at this; omega
/-- what digits count -/
def valD (l : List Int) : Nat := l.foldl (fun a c => 10 * a + (c - 48).toNat) 0
set_option maxRecDepth 100000 in
theorem valD_snoc (l : List Int) (c : Int) : valD (l ++ [c]) = 10 * valD l + (c - 48).toNat := by unfold valD; rw [List.foldl_append]; rfl
set_option maxRecDepth 100000 in
theorem valD_decN (n : Nat) : valD (decN n) = n := by
  induction n using Nat.strongRecOn with
  | _ n ih =>
    by_cases h : n < 10
    · rw [decN_lt h]; unfold valD; simp; omega
    · rw [decN_ge h, valD_snoc, ih (n / 10) (by omega)]; omega
/-- which number a text is, if it is written so -/
def rdD (l : List Int) : Option Nat := if decN (valD l) = l then some (valD l) else none
set_option maxRecDepth 100000 in
theorem rdD_decN (n : Nat) : rdD (decN n) = some n := by unfold rdD; rw [valD_decN, if_pos rfl]
set_option maxRecDepth 100000 in
theorem rdD_some {l : List Int} {n : Nat} (h : rdD l = some n) : l = decN n := by
  unfold rdD at h
  split at h
  · rename_i h1; cases h; exact h1.symm
  · cases h
set_option maxRecDepth 100000 in
theorem decN_take (n : Nat) : ∀ i, 1 ≤ i → i ≤ (decN n).length → ∃ m, m ≤ n ∧ (decN n).take i = decN m := by
  induction n using Nat.strongRecOn with
  | _ n ih =>
    intro i h1 h2
    by_cases h : n < 10
    · rw [decN_lt h] at h2 ⊢
      simp at h2
      obtain rfl : i = 1 := by omega
      exact ⟨n, Nat.le_refl _, by rw [decN_lt h]; rfl⟩
    · by_cases h3 : i = (decN n).length
      · exact ⟨n, Nat.le_refl _, by rw [h3, List.take_length]⟩
      · rw [decN_ge h] at h2 h3 ⊢
        rw [List.length_append, List.length_cons, List.length_nil] at h2 h3
        obtain ⟨m, e1, e2⟩ := ih (n / 10) (by omega) i h1 (by omega)
        exact ⟨m, by omega, by rw [List.take_append_of_le_length (by omega)]; exact e2⟩
/-- all statuses -/
def cdsL : List Int := [200, 400, 401, 403, 404, 405, 409, 413, 422, 429, 503, 507]
/-- a status in words -/
def rsnL (c : Int) : List Int :=
  if c = 200 then [79, 75] else if c = 400 then [66, 97, 100, 32, 82, 101, 113, 117, 101, 115, 116] else if c = 401 then [85, 110, 97, 117, 116, 104, 111, 114, 105, 122, 101, 100] else if c = 403 then [70, 111, 114, 98, 105, 100, 100, 101, 110] else if c = 404 then [78, 111, 116, 32, 70, 111, 117, 110, 100] else if c = 405 then [77, 101, 116, 104, 111, 100, 32, 78, 111, 116, 32, 65, 108, 108, 111, 119, 101, 100] else if c = 409 then [67, 111, 110, 102, 108, 105, 99, 116] else if c = 413 then [67, 111, 110, 116, 101, 110, 116, 32, 84, 111, 111, 32, 76, 97, 114, 103, 101] else if c = 422 then [85, 110, 112, 114, 111, 99, 101, 115, 115, 97, 98, 108, 101, 32, 67, 111, 110, 116, 101, 110, 116] else if c = 429 then [84, 111, 111, 32, 77, 97, 110, 121, 32, 82, 101, 113, 117, 101, 115, 116, 115] else if c = 503 then [83, 101, 114, 118, 105, 99, 101, 32, 85, 110, 97, 118, 97, 105, 108, 97, 98, 108, 101] else if c = 507 then [73, 110, 115, 117, 102, 102, 105, 99, 105, 101, 110, 116, 32, 83, 116, 111, 114, 97, 103, 101] else []
set_option maxRecDepth 100000 in
theorem rsn_iff (c : Int) : rsnL c ≠ [] ↔ c ∈ cdsL := by
  constructor
  · intro h
    refine Classical.byContradiction fun hn => h ?_
    unfold cdsL at hn
    simp only [List.mem_cons, List.not_mem_nil, or_false, not_or] at hn
    obtain ⟨h1, h2, h3, h4, h5, h6, h7, h8, h9, h10, h11, h12⟩ := hn
    unfold rsnL
    rw [if_neg h1, if_neg h2, if_neg h3, if_neg h4, if_neg h5, if_neg h6, if_neg h7, if_neg h8, if_neg h9, if_neg h10, if_neg h11, if_neg h12]
  · intro h
    unfold cdsL at h
    simp only [List.mem_cons, List.not_mem_nil, or_false] at h
    rcases h with rfl | rfl | rfl | rfl | rfl | rfl | rfl | rfl | rfl | rfl | rfl | rfl <;> decide
/-- what stands ahead of the number -/
def ledL (c : Int) : List Int := [72, 84, 84, 80, 47, 49, 46, 49, 32] ++ decN c.toNat ++ [32] ++ rsnL c ++ [13, 10, 67, 111, 110, 116, 101, 110, 116, 45, 76, 101, 110, 103, 116, 104, 58, 32]
/-- an answer's bytes -/
def ansL (c : Int) (b : List Int) : List Int := ledL c ++ (decN b.length ++ ([13, 10, 13, 10] ++ b))
def anE (c : Int) (n : Nat) : Int := if c ∉ cdsL then 2 else if 8192 < n then 5 else 0
def anL (c : Int) (b : List Int) : List Int := if anE c b.length = 0 then ansL c b else []
/-- how many digits stand ahead -/
def digs : List Int → Nat
  | [] => 0
  | c :: r => if dig c = true then digs r + 1 else 0
/-- a number, the empty line, so many bytes -/
def cntR (b : List Int) : List Int × Nat × Int :=
  match rdD (b.take (digs b)) with
  | none => ([], 0, 4)
  | some n => if 8192 < n then ([], 0, 4) else
    if (b.drop (digs b)).take 4 = [13, 10, 13, 10] then (if b.length < digs b + 4 + n then ([], 0, 3) else ((b.drop (digs b + 4)).take n, digs b + 4 + n, 0)) else
    if (b.drop (digs b)).take 4 = [13, 10, 13, 10].take (b.length - digs b) then ([], 0, 3) else ([], 0, 4)
/-- which answer bytes begin with: the status, the body, how many bytes, the error -/
def raF (b : List Int) : List Int → Bool → Int × List Int × Nat × Int
  | [], short => if short = true then (0, [], 0, 3) else (0, [], 0, 4)
  | c :: cs, short =>
    if b.length ≤ (ledL c).length then raF b cs (short || decide ((ledL c).take b.length = b)) else
    if b.take (ledL c).length ≠ ledL c then raF b cs short else
    if (cntR (b.drop (ledL c).length)).2.2 ≠ 0 then (0, [], 0, (cntR (b.drop (ledL c).length)).2.2) else (c, (cntR (b.drop (ledL c).length)).1, (ledL c).length + (cntR (b.drop (ledL c).length)).2.1, 0)
def raR (b : List Int) : Int × List Int × Nat × Int := raF b cdsL false
set_option maxRecDepth 100000 in
theorem digs_app {l : List Int} (h : ∀ c ∈ l, dig c = true) (r : List Int) : digs (l ++ r) = l.length + digs r := by
  induction l with
  | nil => simp
  | cons c t ih =>
    rw [List.cons_append]
    show (if dig c = true then _ else _) = _
    rw [if_pos (h c (by simp)), ih (fun d hd => h d (by simp [hd])), List.length_cons]; omega
set_option maxRecDepth 100000 in
theorem digs_crlf (r : List Int) : digs (13 :: r) = 0 := by show (if dig 13 = true then _ else _) = _; rw [if_neg (by decide)]
set_option maxRecDepth 100000 in
/-- a number and the empty line, whole or in part, and so many bytes -/
theorem cnt_ok (b l : List Int) (hb : b.length ≤ 8192) : cntR (decN b.length ++ ([13, 10, 13, 10] ++ b) ++ l) = (b, (decN b.length).length + 4 + b.length, 0) := by
  have hd : digs (decN b.length ++ ([13, 10, 13, 10] ++ b) ++ l) = (decN b.length).length := by
    rw [List.append_assoc, digs_app (decN_dig _), List.append_assoc, List.cons_append, digs_crlf]; rfl
  unfold cntR
  rw [hd, List.append_assoc, List.take_left, rdD_decN]
  simp only []
  rw [if_neg (by omega), List.drop_left, if_pos (by simp)]
  rw [if_neg (by simp; omega)]
  congr 1
  rw [← List.drop_drop, List.drop_left]
  simp
set_option maxRecDepth 100000 in
theorem cnt_short (b : List Int) (hb : b.length ≤ 8192) (j : Nat) (h1 : 1 ≤ j) (hj : j < (decN b.length ++ ([13, 10, 13, 10] ++ b)).length) : (cntR ((decN b.length ++ ([13, 10, 13, 10] ++ b)).take j)).2.2 = 3 := by
  have hp := decN_pos b.length
  rw [List.length_append, List.length_append] at hj
  simp only [List.length_cons, List.length_nil] at hj
  by_cases h2 : j ≤ (decN b.length).length
  · rw [List.take_append_of_le_length h2]
    obtain ⟨m, e1, e2⟩ := decN_take b.length j h1 h2
    rw [e2]
    have hd : digs (decN m) = (decN m).length := by have := digs_app (decN_dig m) []; rw [List.append_nil] at this; rw [this]; rfl
    unfold cntR
    rw [hd, List.take_length, rdD_decN]
    simp only []
    rw [if_neg (by omega), List.drop_length, if_neg (by simp), if_pos (by simp)]
  · obtain ⟨i, rfl⟩ : ∃ i, j = (decN b.length).length + i := ⟨j - (decN b.length).length, by omega⟩
    rw [List.take_length_add_append]
    have hi : 1 ≤ i := by omega
    have e0 : ([13, 10, 13, 10] ++ b).take i = 13 :: ([10, 13, 10] ++ b).take (i - 1) := by
      obtain ⟨k, rfl⟩ : ∃ k, i = k + 1 := ⟨i - 1, by omega⟩
      rfl
    have hd : digs (decN b.length ++ ([13, 10, 13, 10] ++ b).take i) = (decN b.length).length := by
      rw [e0, digs_app (decN_dig _), digs_crlf]; rfl
    unfold cntR
    rw [hd, List.take_left, rdD_decN]
    simp only []
    rw [if_neg (by omega), List.drop_left, List.take_take]
    by_cases h4 : 4 ≤ i
    · rw [Nat.min_eq_left h4, if_pos (by simp), if_pos (by rw [List.length_append, List.length_take, List.length_append]; simp only [List.length_cons, List.length_nil]; omega)]
    · have e1 : ([13, 10, 13, 10] ++ b).take (min 4 i) = [13, 10, 13, 10].take i := by rw [Nat.min_eq_right (by omega), List.take_append_of_le_length (by simp; omega)]
      rw [e1, if_neg (fun h => by have := congrArg List.length h; rw [List.length_take] at this; simp at this; omega), if_pos (by rw [List.length_append, List.length_take, List.length_append]; congr 1; simp only [List.length_cons, List.length_nil]; omega)]
/-- twelve bytes tell the status -/
def ld12 (c : Int) : List Int := (ledL c).take 12
set_option maxRecDepth 100000 in
theorem led_long : ∀ c ∈ cdsL, 12 ≤ (ledL c).length := by decide
set_option maxRecDepth 100000 in
theorem led_inj : ∀ c ∈ cdsL, ∀ d ∈ cdsL, ld12 c = ld12 d → c = d := by decide +kernel
set_option maxRecDepth 100000 in
/-- another status is passed by -/
theorem ra_pass {b : List Int} {c d : Int} (hc : c ∈ cdsL) (hd : d ∈ cdsL) (hne : d ≠ c) (hb : b.take 12 = ld12 c) (cs : List Int) (short : Bool) : raF b (d :: cs) short = raF b cs short := by
  have hn : ld12 d ≠ b.take 12 := fun e => hne (led_inj d hd c hc (by rw [e, hb]))
  have h12 := led_long d hd
  have hbl : 12 ≤ b.length := by
    have h1 := congrArg List.length hb
    unfold ld12 at h1
    rw [List.length_take, List.length_take] at h1
    have := led_long c hc
    omega
  show (if b.length ≤ (ledL d).length then _ else _) = _
  split
  · rename_i h
    have : decide ((ledL d).take b.length = b) = false := by
      rw [decide_eq_false_iff_not]
      intro e
      apply hn
      unfold ld12
      rw [← e, List.take_take, Nat.min_eq_left hbl]
    rw [this, Bool.or_false]
  · rw [if_pos (fun e => by
      apply hn
      unfold ld12
      rw [← e, List.take_take, Nat.min_eq_left h12])]
set_option maxRecDepth 100000 in
theorem ra_at {b : List Int} {c : Int} (hc : c ∈ cdsL) (hb : b.take 12 = ld12 c) (hl : (ledL c).length < b.length) (hq : b.take (ledL c).length = ledL c) : ∀ (cs : List Int) (short : Bool), (∀ d ∈ cs, d ∈ cdsL) → c ∈ cs → raF b cs short = if (cntR (b.drop (ledL c).length)).2.2 ≠ 0 then (0, [], 0, (cntR (b.drop (ledL c).length)).2.2) else (c, (cntR (b.drop (ledL c).length)).1, (ledL c).length + (cntR (b.drop (ledL c).length)).2.1, 0)
  | [], _, _, h => by cases h
  | d :: cs, short, hds, hin => by
    by_cases e : d = c
    · subst e
      show (if b.length ≤ (ledL d).length then _ else _) = _
      rw [if_neg (by omega), if_neg (by rw [hq]; simp)]
    · rw [ra_pass hc (hds d (by simp)) e hb]
      exact ra_at hc hb hl hq cs short (fun x hx => hds x (by simp [hx])) (by
        rcases List.mem_cons.1 hin with h | h
        · exact absurd h.symm e
        · exact h)
set_option maxRecDepth 100000 in
/-- what is written is read, whatever stands behind -/
theorem ra_ok (c : Int) (b l : List Int) (hc : c ∈ cdsL) (hb : b.length ≤ 8192) : raR (ansL c b ++ l) = (c, b, (ansL c b).length, 0) := by
  have hp := decN_pos b.length
  have e1 : ansL c b ++ l = ledL c ++ (decN b.length ++ ([13, 10, 13, 10] ++ b) ++ l) := by unfold ansL; simp
  have h12 := led_long c hc
  unfold raR
  rw [e1, ra_at hc (by unfold ld12; rw [List.take_append_of_le_length h12]) (by rw [List.length_append, List.length_append, List.length_append]; omega) List.take_left cdsL false (fun d h => h) hc, List.drop_left, cnt_ok b l hb, if_neg (by simp)]
  have e2 : (ansL c b).length = (ledL c).length + ((decN b.length).length + 4 + b.length) := by unfold ansL; simp only [List.length_append, List.length_cons, List.length_nil]; omega
  rw [e2]
set_option maxRecDepth 100000 in
/-- where no status goes on: whether one begins with it -/
theorem ra_short (b : List Int) : ∀ (cs : List Int) (short : Bool), (∀ d ∈ cs, (ledL d).length < b.length → b.take (ledL d).length ≠ ledL d) → raF b cs short = if short = true ∨ ∃ d ∈ cs, b.length ≤ (ledL d).length ∧ (ledL d).take b.length = b then (0, [], 0, 3) else (0, [], 0, 4)
  | [], short, _ => by
    show (if short = true then _ else _) = _
    simp
  | d :: cs, short, h => by
    have ih := fun sh => ra_short b cs sh (fun x hx => h x (by simp [hx]))
    show (if b.length ≤ (ledL d).length then _ else _) = _
    by_cases h1 : b.length ≤ (ledL d).length
    · rw [if_pos h1, ih]
      congr 1
      simp only [Bool.or_eq_true, decide_eq_true_eq, List.mem_cons, exists_eq_or_imp, eq_iff_iff]
      constructor
      · rintro ((h2 | h2) | h2)
        · exact .inl h2
        · exact .inr (.inl ⟨h1, h2⟩)
        · exact .inr (.inr h2)
      · rintro (h2 | ⟨_, h2⟩ | h2)
        · exact .inl (.inl h2)
        · exact .inl (.inr h2)
        · exact .inr h2
    · rw [if_neg h1, if_pos (h d (by simp) (by omega)), ih]
      congr 1
      simp only [List.mem_cons, exists_eq_or_imp, eq_iff_iff]
      constructor
      · rintro (h2 | h2)
        · exact .inl h2
        · exact .inr (.inr h2)
      · rintro (h2 | ⟨h2, _⟩ | h2)
        · exact .inl h2
        · exact absurd h2 h1
        · exact .inr h2
set_option maxRecDepth 100000 in
/-- a beginning ends too early -/
theorem ra_begin (c : Int) (b : List Int) (hc : c ∈ cdsL) (hb : b.length ≤ 8192) (j : Nat) (hj : j < (ansL c b).length) : raR ((ansL c b).take j) = (0, [], 0, 3) := by
  have h12 := led_long c hc
  by_cases h1 : j ≤ (ledL c).length
  · have e : (ansL c b).take j = (ledL c).take j := by unfold ansL; exact List.take_append_of_le_length h1
    have hl : ((ledL c).take j).length = j := by rw [List.length_take]; omega
    rw [e]
    unfold raR
    rw [ra_short _ _ _ (fun d hd hlt he => by
      rw [hl] at hlt
      have hd12 := led_long d hd
      rw [List.take_take] at he
      have h2 : ld12 d = ld12 c := by
        unfold ld12
        rw [← he, List.take_take]
        congr 1
        omega
      have h3 := led_inj d hd c hc h2
      rw [h3] at hlt
      omega), if_pos (.inr ⟨c, hc, by rw [hl]; exact h1, by rw [hl]⟩)]
  · obtain ⟨i, rfl⟩ : ∃ i, j = (ledL c).length + i := ⟨j - (ledL c).length, by omega⟩
    have e : (ansL c b).take ((ledL c).length + i) = ledL c ++ (decN b.length ++ ([13, 10, 13, 10] ++ b)).take i := by unfold ansL; exact List.take_length_add_append i
    have hi : i < (decN b.length ++ ([13, 10, 13, 10] ++ b)).length := by unfold ansL at hj; rw [List.length_append] at hj; omega
    have hil : ((decN b.length ++ ([13, 10, 13, 10] ++ b)).take i).length = i := by rw [List.length_take]; omega
    rw [e]
    unfold raR
    rw [ra_at hc (by unfold ld12; rw [List.take_append_of_le_length h12]) (by rw [List.length_append, hil]; omega) List.take_left cdsL false (fun d h => h) hc, List.drop_left, if_pos (by rw [cnt_short b hb i (by omega) hi]; simp), cnt_short b hb i (by omega) hi]
end Go.Proofs.YtdameoejigpnhaaGreatDoor
