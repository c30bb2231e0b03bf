/- CRC-32: the register, bit by bit; that at most 32 bits in a row that are turned are found: no walk. What frames are, what reading answers; there and back; that a frame of which at most 32 bits in a row are turned is not read: no walk. -/
import Derived.Test.YtjnjokbdoendkaaGreatBase
import Derived.Test.YtjnjokbdoendkaaGreatSma
namespace Go.Proofs.YtjnjokbdoendkaaGreat
open Go.RowKit
set_option linter.unusedVariables false

/-- one shift of the sum's register -/
def crT (c : BitVec 32) : BitVec 32 := (c >>> 1) ^^^ (if c.getLsbD 0 then (BitVec.ofNat 32 0xedb88320) else (BitVec.ofNat 32 0))
set_option maxRecDepth 100000 in
theorem bxl (a b c : BitVec 32) : a ^^^ (b ^^^ c) = b ^^^ (a ^^^ c) := by rw [← BitVec.xor_assoc, BitVec.xor_comm a b, BitVec.xor_assoc]
set_option maxRecDepth 100000 in
theorem bxc (a b : BitVec 32) : a ^^^ (a ^^^ b) = b := by rw [← BitVec.xor_assoc, BitVec.xor_self, BitVec.zero_xor]
set_option maxRecDepth 100000 in
theorem bx3 (c q o : BitVec 32) : (c ^^^ o) ^^^ ((c ^^^ q) ^^^ o) = q := by
  apply BitVec.eq_of_getLsbD_eq
  intro i hi
  simp only [BitVec.getLsbD_xor]
  cases c.getLsbD i <;> cases q.getLsbD i <;> cases o.getLsbD i <;> rfl
set_option maxRecDepth 100000 in
theorem crT_xor (a b : BitVec 32) : crT (a ^^^ b) = crT a ^^^ crT b := by
  unfold crT
  rw [BitVec.ushiftRight_xor_distrib, BitVec.getLsbD_xor]
  cases a.getLsbD 0 <;> cases b.getLsbD 0 <;> simp [BitVec.xor_assoc, BitVec.xor_comm, bxl]
set_option maxRecDepth 100000 in
theorem crT_zero : crT (BitVec.ofNat 32 0) = (BitVec.ofNat 32 0) := by decide
set_option maxRecDepth 100000 in
theorem crT_ne (c : BitVec 32) (h : crT c = (BitVec.ofNat 32 0)) : c = (BitVec.ofNat 32 0) := by
  have h31 : (crT c).getLsbD 31 = false := by rw [h]; decide
  have h0 : c.getLsbD 0 = false := by
    cases hc : c.getLsbD 0 with
    | false => rfl
    | true =>
      unfold crT at h31
      rw [hc, BitVec.getLsbD_xor, BitVec.getLsbD_ushiftRight] at h31
      simp at h31
  unfold crT at h
  rw [h0] at h
  simp at h
  apply BitVec.eq_of_getLsbD_eq
  intro i hi
  cases i with
  | zero => rw [h0]; decide
  | succ i =>
    have := congrArg (fun v : BitVec 32 => v.getLsbD i) h
    simp only [BitVec.getLsbD_ushiftRight] at this
    rw [Nat.add_comm, this]; simp
/-- n shifts -/
def crN : Nat → BitVec 32 → BitVec 32
  | 0, c => c
  | n + 1, c => crN n (crT c)
set_option maxRecDepth 100000 in
theorem crN_xor (n : Nat) : ∀ a b, crN n (a ^^^ b) = crN n a ^^^ crN n b := by
  induction n with
  | zero => intro a b; rfl
  | succ n ih => intro a b; show crN n (crT (a ^^^ b)) = _; rw [crT_xor, ih]; rfl
set_option maxRecDepth 100000 in
theorem crN_zero (n : Nat) : crN n (BitVec.ofNat 32 0) = (BitVec.ofNat 32 0) := by
  induction n with
  | zero => rfl
  | succ n ih => show crN n (crT (BitVec.ofNat 32 0)) = _; rw [crT_zero, ih]
set_option maxRecDepth 100000 in
theorem crN_ne (n : Nat) : ∀ c, crN n c = (BitVec.ofNat 32 0) → c = (BitVec.ofNat 32 0) := by
  induction n with
  | zero => intro c h; exact h
  | succ n ih => intro c h; exact crT_ne c (ih _ h)
/-- bits, one by one -/
def crF (c : BitVec 32) : List Bool → BitVec 32
  | [] => c
  | b :: r => crF (crT (c ^^^ (if b then (BitVec.ofNat 32 1) else (BitVec.ofNat 32 0)))) r
set_option maxRecDepth 100000 in
theorem crF_app (c : BitVec 32) (r s : List Bool) : crF c (r ++ s) = crF (crF c r) s := by
  induction r generalizing c with
  | nil => rfl
  | cons b r ih => exact ih _
/-- bits that are turned: lists of the same length -/
def xorL : List Bool → List Bool → List Bool
  | a :: r, b :: s => (a ^^ b) :: xorL r s
  | _, _ => []
set_option maxRecDepth 100000 in
theorem crF_xor : ∀ (r s : List Bool) (c d : BitVec 32), r.length = s.length → crF (c ^^^ d) (xorL r s) = crF c r ^^^ crF d s := by
  intro r
  induction r with
  | nil => intro s c d h; cases s with
    | nil => rfl
    | cons b s => simp at h
  | cons a r ih =>
    intro s c d h
    cases s with
    | nil => simp at h
    | cons b s =>
      show crF (crT ((c ^^^ d) ^^^ (if a ^^ b then (BitVec.ofNat 32 1) else (BitVec.ofNat 32 0)))) (xorL r s) = crF (crT (c ^^^ (if a then (BitVec.ofNat 32 1) else (BitVec.ofNat 32 0)))) r ^^^ crF (crT (d ^^^ (if b then (BitVec.ofNat 32 1) else (BitVec.ofNat 32 0)))) s
      rw [← ih s _ _ (by simpa using h), ← crT_xor]
      congr 2
      cases a <;> cases b <;> simp [BitVec.xor_assoc, BitVec.xor_comm, bxl]
set_option maxRecDepth 100000 in
theorem crF_noughts (n : Nat) (c : BitVec 32) : crF c (List.replicate n false) = crN n c := by
  induction n generalizing c with
  | zero => rfl
  | succ n ih => rw [List.replicate_succ]; show crF (crT (c ^^^ (BitVec.ofNat 32 0))) _ = crN n (crT c); rw [BitVec.xor_zero, ih]
/-- a row of bits as a number, the lowest first -/
def bitW : List Bool → Nat
  | [] => 0
  | b :: r => (if b then 1 else 0) + 2 * bitW r
set_option maxRecDepth 100000 in
theorem bitW_lt (l : List Bool) : bitW l < 2 ^ l.length := by
  induction l with
  | nil => decide
  | cons b r ih => rw [List.length_cons, Nat.pow_succ]; unfold bitW; split <;> omega
set_option maxRecDepth 100000 in
theorem bitW_pos (l : List Bool) (h : ∃ b ∈ l, b = true) : 0 < bitW l := by
  induction l with
  | nil => obtain ⟨b, hb, _⟩ := h; cases hb
  | cons b r ih =>
    unfold bitW
    cases b with
    | true => simp; omega
    | false =>
      obtain ⟨c, hc, e⟩ := h
      rcases List.mem_cons.1 hc with h1 | h1
      · rw [e] at h1; cases h1
      · have := ih ⟨c, h1, e⟩; omega
set_option maxRecDepth 100000 in
/-- up to 32 bits at once -/
theorem crT_word (b : Bool) (m : Nat) (h : (if b then 1 else 0) + 2 * m < 2 ^ 32) (c : BitVec 32) : crT (c ^^^ BitVec.ofNat 32 ((if b then 1 else 0) + 2 * m)) = crT (c ^^^ (if b then (BitVec.ofNat 32 1) else (BitVec.ofNat 32 0))) ^^^ BitVec.ofNat 32 m := by
  have e1 : BitVec.ofNat 32 ((if b then 1 else 0) + 2 * m) = (if b then (BitVec.ofNat 32 1) else (BitVec.ofNat 32 0)) ^^^ BitVec.ofNat 32 (2 * m) := by
    apply BitVec.eq_of_toNat_eq
    have h2 : ((if b then (BitVec.ofNat 32 1) else (BitVec.ofNat 32 0)) : BitVec 32).toNat = if b then 1 else 0 := by cases b <;> rfl
    rw [BitVec.toNat_xor, h2, BitVec.toNat_ofNat, BitVec.toNat_ofNat, Nat.mod_eq_of_lt h, Nat.mod_eq_of_lt (by split at h <;> omega)]
    cases b with
    | false => simp
    | true =>
      apply Nat.eq_of_testBit_eq
      intro i
      cases i with
      | zero => simp [Nat.testBit_zero]
      | succ i =>
        rw [Nat.testBit_xor, Nat.testBit_succ, Nat.testBit_succ, Nat.testBit_succ, if_pos rfl, show (1 + 2 * m) / 2 = m from by omega, show 1 / 2 = 0 from rfl, show 2 * m / 2 = m from by omega]
        simp
  have e2 : crT (BitVec.ofNat 32 (2 * m)) = BitVec.ofNat 32 m := by
    have hm : 2 * m < 2 ^ 32 := by split at h <;> omega
    have h0 : (BitVec.ofNat 32 (2 * m)).getLsbD 0 = false := by rw [BitVec.getLsbD_ofNat, Nat.testBit_zero]; simp
    unfold crT
    rw [h0]
    apply BitVec.eq_of_toNat_eq
    simp [BitVec.toNat_ushiftRight, Nat.mod_eq_of_lt hm, Nat.shiftRight_eq_div_pow]
    omega
  rw [e1, ← BitVec.xor_assoc, crT_xor, e2]
set_option maxRecDepth 100000 in
theorem crF_word : ∀ (l : List Bool) (c : BitVec 32), l.length ≤ 32 → crF c l = crN l.length (c ^^^ BitVec.ofNat 32 (bitW l)) := by
  intro l
  induction l with
  | nil => intro c _; show c = c ^^^ (BitVec.ofNat 32 0); rw [BitVec.xor_zero]
  | cons b r ih =>
    intro c h
    have hlt := bitW_lt (b :: r)
    have h32 : bitW (b :: r) < 2 ^ 32 := Nat.lt_of_lt_of_le hlt (Nat.pow_le_pow_right (by decide) h)
    show crF (crT (c ^^^ (if b then (BitVec.ofNat 32 1) else (BitVec.ofNat 32 0)))) r = crN r.length (crT (c ^^^ BitVec.ofNat 32 (bitW (b :: r))))
    rw [ih _ (by simp at h; omega)]
    congr 1
    exact (crT_word b (bitW r) h32 c).symm
set_option maxRecDepth 100000 in
/-- at most 32 bits in a row leave something -/
theorem burst (a b : Nat) (e : List Bool) (hl : e.length ≤ 32) (he : ∃ x ∈ e, x = true) : crF (BitVec.ofNat 32 0) (List.replicate a false ++ (e ++ List.replicate b false)) ≠ (BitVec.ofNat 32 0) := by
  intro h
  rw [crF_app, crF_noughts a, crN_zero, crF_app, crF_noughts, crF_word e _ hl, BitVec.zero_xor] at h
  have h2 := crN_ne _ _ (crN_ne _ _ h)
  have h3 := congrArg BitVec.toNat h2
  rw [BitVec.toNat_ofNat, Nat.mod_eq_of_lt (Nat.lt_of_lt_of_le (bitW_lt e) (Nat.pow_le_pow_right (by decide) hl))] at h3
  have := bitW_pos e he
  simp at h3; omega
/-- the bits of a byte, the lowest first -/
def bitsB (b : Nat) : List Bool := (List.range 8).map fun i => b.testBit i
set_option maxRecDepth 100000 in
theorem bitsB_len (b : Nat) : (bitsB b).length = 8 := by simp [bitsB]
set_option maxRecDepth 100000 in
theorem bitsB_word : ∀ b : Fin 256, bitW (bitsB b.val) = b.val := by decide +kernel
set_option maxRecDepth 100000 in
theorem bitsB_at (b i : Nat) (h : i < 8) : (bitsB b)[i]? = some (b.testBit i) := by
  unfold bitsB; rw [List.getElem?_map, List.getElem?_range h]; rfl
/-- the bits of bytes -/
def bitsL (l : List Int) : List Bool := l.flatMap fun c => bitsB c.toNat
set_option maxRecDepth 100000 in
theorem bitsL_cons (c : Int) (l : List Int) : bitsL (c :: l) = bitsB c.toNat ++ bitsL l := rfl
set_option maxRecDepth 100000 in
theorem bitsL_app (l m : List Int) : bitsL (l ++ m) = bitsL l ++ bitsL m := by simp [bitsL]
set_option maxRecDepth 100000 in
theorem bitsL_len (l : List Int) : (bitsL l).length = 8 * l.length := by
  induction l with
  | nil => rfl
  | cons c l ih => rw [bitsL_cons, List.length_append, bitsB_len, ih, List.length_cons]; omega
set_option maxRecDepth 100000 in
theorem bitsL_at (l : List Int) : ∀ p, p < 8 * l.length → (bitsL l)[p]? = some ((l.getD (p / 8) 0).toNat.testBit (p % 8)) := by
  induction l with
  | nil => intro p h; simp at h
  | cons c l ih =>
    intro p h
    rw [List.length_cons] at h
    rw [bitsL_cons]
    by_cases hp : p < 8
    · rw [List.getElem?_append_left (by rw [bitsB_len]; exact hp), bitsB_at _ _ hp, show p / 8 = 0 from by omega, show p % 8 = p from by omega]; rfl
    · rw [List.getElem?_append_right (by rw [bitsB_len]; omega), bitsB_len, ih (p - 8) (by omega), show p / 8 = (p - 8) / 8 + 1 from by omega, show p % 8 = (p - 8) % 8 from by omega]; rfl
/-- the register behind bytes -/
def crcS (c : BitVec 32) : List Int → BitVec 32
  | [] => c
  | b :: l => crcS (crN 8 (c ^^^ BitVec.ofNat 32 b.toNat)) l
set_option maxRecDepth 100000 in
theorem crcS_app (c : BitVec 32) (l m : List Int) : crcS c (l ++ m) = crcS (crcS c l) m := by
  induction l generalizing c with
  | nil => rfl
  | cons b l ih => exact ih _
set_option maxRecDepth 100000 in
theorem crcS_feed (l : List Int) : ∀ c, Byt l → crcS c l = crF c (bitsL l) := by
  induction l with
  | nil => intro c _; rfl
  | cons b l ih =>
    intro c h
    have hb := h b (by simp)
    rw [bitsL_cons, crF_app, crF_word (bitsB b.toNat) c (by rw [bitsB_len]; decide), bitsB_len]
    have hw : bitW (bitsB b.toNat) = b.toNat := bitsB_word ⟨b.toNat, by omega⟩
    rw [hw]
    exact ih _ (fun d hd => h d (by simp [hd]))
/-- the sum -/
def crO : BitVec 32 := (BitVec.ofNat 32 0xffffffff)
def crcL (l : List Int) : BitVec 32 := crcS crO l ^^^ crO
/-- a sum as bytes, the lowest first -/
def four (n : Nat) : List Int := [((n % 256 : Nat) : Int), ((n / 256 % 256 : Nat) : Int), ((n / 65536 % 256 : Nat) : Int), ((n / 16777216 % 256 : Nat) : Int)]
set_option maxRecDepth 100000 in
theorem four_byt (n : Nat) : Byt (four n) := by
  intro c hc
  simp only [four, List.mem_cons, List.not_mem_nil, or_false] at hc
  rcases hc with rfl | rfl | rfl | rfl <;> omega
/-- four bytes as a number, the lowest first -/
def fourV (q : List Int) : Nat := (q.getD 0 0).toNat + 256 * ((q.getD 1 0).toNat + 256 * ((q.getD 2 0).toNat + 256 * (q.getD 3 0).toNat))
set_option maxRecDepth 100000 in
theorem bitW_app (l m : List Bool) : bitW (l ++ m) = bitW l + 2 ^ l.length * bitW m := by
  induction l with
  | nil => simp [bitW]
  | cons b l ih =>
    show (if b then 1 else 0) + 2 * bitW (l ++ m) = (if b then 1 else 0) + 2 * bitW l + 2 ^ (l.length + 1) * bitW m
    rw [ih, Nat.pow_succ, Nat.mul_add, ← Nat.add_assoc, Nat.mul_comm (2 ^ l.length) 2, Nat.mul_assoc]
set_option maxRecDepth 100000 in
theorem fourV_word (q : List Int) (hq : q.length = 4) (hb : Byt q) : bitW (bitsL q) = fourV q := by
  match q, hq with
  | [a, b, c, d], _ =>
    have ha := hb a (by simp)
    have hbb := hb b (by simp)
    have hc := hb c (by simp)
    have hd := hb d (by simp)
    have w : ∀ x : Int, 0 ≤ x ∧ x ≤ 255 → bitW (bitsB x.toNat) = x.toNat := fun x hx => bitsB_word ⟨x.toNat, by omega⟩
    rw [bitsL_cons, bitsL_cons, bitsL_cons, bitsL_cons, bitW_app, bitW_app, bitW_app, bitW_app, bitsB_len, bitsB_len, bitsB_len, bitsB_len, w a ha, w b hbb, w c hc, w d hd]
    simp [fourV, bitsL, bitW]
set_option maxRecDepth 100000 in
theorem four_fourV (q : List Int) (hq : q.length = 4) (hb : Byt q) : four (fourV q) = q := by
  match q, hq with
  | [a, b, c, d], _ =>
    have ha := hb a (by simp)
    have hbb := hb b (by simp)
    have hc := hb c (by simp)
    have hd := hb d (by simp)
    simp only [four, fourV, List.getD_cons_zero, List.getD_cons_succ]
    congr 1
    · omega
    · congr 1
      · omega
      · congr 1
        · omega
        · congr 1
          omega
set_option maxRecDepth 100000 in
theorem fourV_four (n : Nat) (h : n < 2 ^ 32) : fourV (four n) = n := by
  simp only [four, fourV, List.getD_cons_zero, List.getD_cons_succ]
  omega
/-- bytes whose last four are the sum of the others: one number of the whole tells it -/
def Valid (t q : List Int) : Prop := q = four (crcL t).toNat
set_option maxRecDepth 100000 in
theorem valid_iff (t q : List Int) (hq : q.length = 4) (ht : Byt t) (hb : Byt q) : Valid t q ↔ crF crO (bitsL (t ++ q)) = crN 32 crO := by
  have e1 : crF crO (bitsL (t ++ q)) = crN 32 (crcS crO t ^^^ BitVec.ofNat 32 (fourV q)) := by
    rw [bitsL_app, crF_app, ← crcS_feed t crO ht, crF_word _ _ (by rw [bitsL_len, hq]; decide), bitsL_len, hq, fourV_word q hq hb]
  have hlt : fourV q < 2 ^ 32 := by
    have := bitW_lt (bitsL q)
    rw [fourV_word q hq hb, bitsL_len, hq] at this; exact this
  rw [e1]
  constructor
  · intro h
    unfold Valid at h
    have : fourV q = (crcL t).toNat := by rw [h, fourV_four _ (BitVec.isLt _)]
    rw [this, BitVec.ofNat_toNat, BitVec.setWidth_eq]
    congr 1
    unfold crcL
    rw [← BitVec.xor_assoc, BitVec.xor_self, BitVec.zero_xor]
  · intro h
    have h2 : crN 32 ((crcS crO t ^^^ BitVec.ofNat 32 (fourV q)) ^^^ crO) = (BitVec.ofNat 32 0) := by rw [crN_xor, h, BitVec.xor_self]
    have h3 := crN_ne _ _ h2
    have h4 : BitVec.ofNat 32 (fourV q) = crcL t := by
      have h5 := bx3 (crcS crO t) (BitVec.ofNat 32 (fourV q)) crO
      rw [h3, BitVec.xor_zero] at h5
      exact h5.symm
    unfold Valid
    rw [← h4, BitVec.toNat_ofNat, Nat.mod_eq_of_lt hlt, four_fourV q hq hb]
set_option maxRecDepth 100000 in
/-- bits that are turned within 32 places -/
theorem window (e : List Bool) (at_ : Nat) (h : ∀ p, e[p]? = some true → at_ ≤ p ∧ p < at_ + 32) (hx : ∃ x ∈ e, x = true) : crF (BitVec.ofNat 32 0) e ≠ (BitVec.ofNat 32 0) := by
  have hall : ∀ (l : List Bool), (∀ x ∈ l, x = false) → l = List.replicate l.length false := fun l hl => List.eq_replicate_iff.2 ⟨rfl, hl⟩
  have h1 : ∀ x ∈ e.take at_, x = false := by
    intro x hx1
    obtain ⟨i, hi, rfl⟩ := List.mem_iff_getElem.1 hx1
    cases hv : (e.take at_)[i] with
    | false => rfl
    | true =>
      rw [List.length_take] at hi
      have := h i (by rw [List.getElem?_eq_getElem (by omega)]; rw [List.getElem_take] at hv; rw [hv])
      omega
  have h2 : ∀ x ∈ (e.drop at_).drop 32, x = false := by
    intro x hx1
    obtain ⟨i, hi, rfl⟩ := List.mem_iff_getElem.1 hx1
    cases hv : ((e.drop at_).drop 32)[i] with
    | false => rfl
    | true =>
      rw [List.length_drop, List.length_drop] at hi
      have := h (at_ + (32 + i)) (by rw [List.getElem?_eq_getElem (by omega)]; rw [List.getElem_drop, List.getElem_drop] at hv; rw [hv])
      omega
  have he : e = e.take at_ ++ ((e.drop at_).take 32 ++ (e.drop at_).drop 32) := by rw [List.take_append_drop, List.take_append_drop]
  have hin : ∃ x ∈ (e.drop at_).take 32, x = true := by
    obtain ⟨x, hx1, rfl⟩ := hx
    rw [he] at hx1
    rcases List.mem_append.1 hx1 with h3 | h3
    · have := h1 _ h3; cases this
    · rcases List.mem_append.1 h3 with h4 | h4
      · exact ⟨true, h4, rfl⟩
      · have := h2 _ h4; cases this
  have hb := burst (e.take at_).length ((e.drop at_).drop 32).length ((e.drop at_).take 32) (by rw [List.length_take]; omega) hin
  rw [← hall _ h1, ← hall _ h2, ← he] at hb
  exact hb
set_option maxRecDepth 100000 in
theorem xorL_at : ∀ (r s : List Bool) (p : Nat) (a b : Bool), r[p]? = some a → s[p]? = some b → (xorL r s)[p]? = some (a ^^ b) := by
  intro r
  induction r with
  | nil => intro s p a b h; simp at h
  | cons c r ih =>
    intro s p a b h k
    cases s with
    | nil => simp at k
    | cons d s =>
      cases p with
      | zero => simp at h k; rw [h, k]; rfl
      | succ p => simp at h k; show (xorL r s)[p]? = _; exact ih s p a b h k
set_option maxRecDepth 100000 in
theorem xorL_len : ∀ (r s : List Bool), r.length = s.length → (xorL r s).length = r.length := by
  intro r
  induction r with
  | nil => intro s h; cases s <;> rfl
  | cons c r ih =>
    intro s h
    cases s with
    | nil => simp at h
    | cons d s => show (xorL r s).length + 1 = _; rw [ih s (by simpa using h)]; rfl
set_option maxRecDepth 100000 in
/-- of bytes with their sum at most 32 bits in a row are turned: they are none any more -/
theorem turned_bad (t q t' q' : List Int) (at_ : Nat) (ef : Nat → Bool) (hq : q.length = 4) (hq' : q'.length = 4) (hl : t'.length = t.length) (ht : Byt t) (hb : Byt q) (ht' : Byt t') (hb' : Byt q') (hv : Valid t q)
    (hbit : ∀ p, p < 8 * (t.length + 4) → (((t' ++ q').getD (p / 8) 0).toNat.testBit (p % 8)) = (((t ++ q).getD (p / 8) 0).toNat.testBit (p % 8) ^^ ef p))
    (hw : ∀ p, ef p = true → at_ ≤ p ∧ p < at_ + 32) (hx : ∃ p, p < 8 * (t.length + 4) ∧ ef p = true) : ¬ Valid t' q' := by
  intro hv'
  have n1 : (t ++ q).length = t.length + 4 := by rw [List.length_append, hq]
  have n2 : (t' ++ q').length = t.length + 4 := by rw [List.length_append, hq', hl]
  obtain ⟨e, he⟩ : ∃ e, e = (List.range (8 * (t.length + 4))).map ef := ⟨_, rfl⟩
  have hel : e.length = 8 * (t.length + 4) := by rw [he]; simp
  have hea : ∀ p, p < 8 * (t.length + 4) → e[p]? = some (ef p) := fun p hp => by rw [he, List.getElem?_map, List.getElem?_range hp]; rfl
  have hE : bitsL (t' ++ q') = xorL (bitsL (t ++ q)) e := by
    apply List.ext_getElem?
    intro p
    by_cases hp : p < 8 * (t.length + 4)
    · rw [bitsL_at _ p (by rw [n2]; exact hp), xorL_at _ _ p _ _ (bitsL_at _ p (by rw [n1]; exact hp)) (hea p hp), hbit p hp]
    · rw [List.getElem?_eq_none (by rw [bitsL_len, n2]; omega), List.getElem?_eq_none (by rw [xorL_len _ _ (by rw [bitsL_len, n1, hel]), bitsL_len, n1]; omega)]
  have h1 := (valid_iff t q hq ht hb).1 hv
  have h2 := (valid_iff t' q' hq' ht' hb').1 hv'
  have h3 := crF_xor (bitsL (t ++ q)) e crO (BitVec.ofNat 32 0) (by rw [bitsL_len, n1, hel])
  rw [BitVec.xor_zero, ← hE, h1, h2] at h3
  have h4 : crF (BitVec.ofNat 32 0) e = (BitVec.ofNat 32 0) := by
    have h5 := congrArg (fun v => crN 32 crO ^^^ v) h3
    simp only [BitVec.xor_self] at h5
    rw [bxc] at h5
    exact h5.symm
  refine window e at_ (fun p hp => ?_) ?_ h4
  · have hlt : p < 8 * (t.length + 4) := by have := (List.getElem?_eq_some_iff.1 hp).1; omega
    rw [hea p hlt] at hp
    exact hw p (Option.some.inj hp)
  · obtain ⟨p, hp, hep⟩ := hx
    exact ⟨true, List.mem_of_getElem? (by rw [hea p hp, hep]), rfl⟩
end Go.Proofs.YtjnjokbdoendkaaGreat
namespace Go.Proofs.YtjnjokbdoendkaaGreat
open Go.RowKit
set_option linter.unusedVariables false

set_option maxRecDepth 100000 in
theorem getV_putL (x : Int) (n : Nat) (h0 : 0 ≤ x) : getV (putL x n) = x % 256 ^ n := by
  suffices H : ∀ (n : Nat) (acc : Int), (putL x n).foldl (fun y c => 256 * y + c) acc = acc * 256 ^ n + x % 256 ^ n by
    have := H n 0; unfold getV; rw [this]; omega
  intro n
  induction n with
  | zero => intro acc; simp [putL, Int.emod_one]
  | succ n ih =>
    intro acc
    show (putL x n).foldl _ (256 * acc + sh x n % 256) = _
    rw [ih, Int.pow_succ]
    unfold sh
    have hp : (0 : Int) < 256 ^ n := Int.pow_pos (by decide)
    generalize (256 : Int) ^ n = P at *
    have e1 := Int.emod_add_mul_ediv x P
    have e2 := Int.emod_add_mul_ediv (x / P) 256
    have r1 := Int.emod_nonneg x (Int.ne_of_gt hp)
    have r2 := Int.emod_lt_of_pos x hp
    have hx : x = (x % P + P * (x / P % 256)) + (P * 256) * (x / P / 256) := by
      conv => lhs; rw [← e1, ← e2]
      rw [Int.mul_add, Int.mul_assoc, Int.add_assoc]
    have q0 : 0 ≤ x / P % 256 := Int.emod_nonneg _ (by decide)
    have q1 : x / P % 256 ≤ 255 := by have := Int.emod_lt_of_pos (x / P) (show (0 : Int) < 256 by decide); omega
    have m0 : 0 ≤ P * (x / P % 256) := Int.mul_nonneg (Int.le_of_lt hp) q0
    have m1 : P * (x / P % 256) ≤ P * 255 := Int.mul_le_mul_of_nonneg_left q1 (Int.le_of_lt hp)
    have hm : x % (P * 256) = x % P + P * (x / P % 256) := by
      conv => lhs; rw [hx]
      rw [Int.add_mul_emod_self_left, Int.emod_eq_of_lt (by omega) (by omega)]
    rw [hm, Int.add_mul, Int.mul_comm 256 acc, Int.mul_assoc, Int.mul_comm 256 P, Int.mul_comm (x / P % 256) P]
    omega
set_option maxRecDepth 100000 in
/-- bytes put together are the bytes again -/
theorem getV_cons (c : Int) (l : List Int) : getV (c :: l) = c * 256 ^ l.length + getV l := by
  suffices H : ∀ (l : List Int) (a : Int), l.foldl (fun x c => 256 * x + c) a = a * 256 ^ l.length + l.foldl (fun x c => 256 * x + c) 0 by
    have := H l (256 * 0 + c); unfold getV; rw [List.foldl_cons, this]; simp
  intro l
  induction l with
  | nil => intro a; simp
  | cons d l ih =>
    intro a
    rw [List.foldl_cons, List.foldl_cons, ih (256 * a + d), ih (256 * 0 + d), List.length_cons, Int.pow_succ, Int.add_mul, Int.mul_comm 256 a, Int.mul_assoc, Int.mul_comm 256 (256 ^ l.length)]
    simp; omega
set_option maxRecDepth 100000 in
theorem putL_getV : ∀ (l : List Int), Byt l → ∀ k : Int, putL (k * 256 ^ l.length + getV l) l.length = l := by
  intro l
  induction l with
  | nil => intro _ _; rfl
  | cons c l ih =>
    intro h k
    have hc := h c (by simp)
    have hl : Byt l := fun d hd => h d (by simp [hd])
    have hb := getV_bd l hl
    have hp : (0 : Int) < 256 ^ l.length := Int.pow_pos (by decide)
    rw [getV_cons, List.length_cons]
    show sh _ l.length % 256 :: putL _ l.length = _
    have e : k * 256 ^ (l.length + 1) + (c * 256 ^ l.length + getV l) = (k * 256 + c) * 256 ^ l.length + getV l := by
      rw [Int.pow_succ, Int.add_mul, Int.mul_comm (256 ^ l.length) 256, Int.mul_assoc]; omega
    rw [e, ih hl (k * 256 + c)]
    congr 1
    unfold sh
    rw [Int.add_comm, Int.add_mul_ediv_right _ _ (Int.ne_of_gt hp), Int.ediv_eq_zero_of_lt hb.1 hb.2]
    omega
/-- a sum as a number -/
def crcN (l : List Int) : Nat := (crcL l).toNat
/-- a frame's head: how many bytes, and the number -/
def headL (n : Nat) (seq : Int) : List Int := putL (n : Int) 4 ++ putL seq 8
/-- a frame -/
def frmL (seq : Int) (b : List Int) : List Int := headL b.length seq ++ (four (crcN (headL b.length seq)) ++ (b ++ four (crcN b)))
set_option maxRecDepth 100000 in
theorem headL_len (n : Nat) (seq : Int) : (headL n seq).length = 12 := by unfold headL; rw [List.length_append, putL_length, putL_length]
set_option maxRecDepth 100000 in
theorem headL_byt (n : Nat) (seq : Int) : Byt (headL n seq) := (putL_byt _ _).append (putL_byt _ _)
set_option maxRecDepth 100000 in
theorem four_len (n : Nat) : (four n).length = 4 := rfl
set_option maxRecDepth 100000 in
theorem frmL_len (seq : Int) (b : List Int) : (frmL seq b).length = 20 + b.length := by
  unfold frmL; rw [List.length_append, List.length_append, List.length_append, headL_len, four_len, four_len]; omega
set_option maxRecDepth 100000 in
theorem frmL_byt (seq : Int) (b : List Int) (h : Byt b) : Byt (frmL seq b) := (headL_byt _ _).append ((four_byt _).append (h.append (four_byt _)))
/-- how many bytes a head says -/
def rdC (b : List Int) : Nat := (getV (b.take 4)).toNat
/-- what reading answers: the error -/
def rdE (b : List Int) : Int :=
  if b.length < 16 then 3
  else if (b.drop 12).take 4 ≠ four (crcN (b.take 12)) then 13
  else if getV ((b.drop 4).take 8) = 0 then 4
  else if 16384 < getV (b.take 4) then 5
  else if b.length < 20 + rdC b then 3
  else if (b.drop (16 + rdC b)).take 4 ≠ four (crcN ((b.drop 16).take (rdC b))) then 13
  else 0
/-- .. the number, the text, how many bytes -/
def rdS (b : List Int) : Int := if rdE b = 0 then getV ((b.drop 4).take 8) else 0
def rdT (b : List Int) : List Int := if rdE b = 0 then (b.drop 16).take (rdC b) else []
def rdN (b : List Int) : Nat := if rdE b = 0 then 20 + rdC b else 0
set_option maxRecDepth 100000 in
theorem rdE_ok (b : List Int) : rdE b = 0 ↔ 16 ≤ b.length ∧ (b.drop 12).take 4 = four (crcN (b.take 12)) ∧ getV ((b.drop 4).take 8) ≠ 0 ∧ getV (b.take 4) ≤ 16384 ∧ 20 + rdC b ≤ b.length ∧ (b.drop (16 + rdC b)).take 4 = four (crcN ((b.drop 16).take (rdC b))) := by
  unfold rdE
  constructor
  · intro h
    split at h
    · cases h
    · split at h
      · cases h
      · rename_i h1 h2
        split at h
        · cases h
        · rename_i h3
          split at h
          · cases h
          · rename_i h4
            split at h
            · cases h
            · rename_i h5
              split at h
              · cases h
              · rename_i h6
                exact ⟨by omega, Classical.not_not.1 h2, h3, by omega, by omega, Classical.not_not.1 h6⟩
  · rintro ⟨h1, h2, h3, h4, h5, h6⟩
    rw [if_neg (by omega), if_neg (fun h => h h2), if_neg h3, if_neg (by omega), if_neg (by omega), if_neg (fun h => h h6)]
set_option maxRecDepth 100000 in
/-- the pieces of what begins with a frame -/
theorem frm_parts (seq : Int) (b z : List Int) (h0 : 0 ≤ seq) (h64 : seq < 18446744073709551616) (hb : b.length ≤ 16384) :
    (frmL seq b ++ z).take 12 = headL b.length seq ∧ ((frmL seq b ++ z).drop 12).take 4 = four (crcN (headL b.length seq)) ∧ getV ((frmL seq b ++ z).take 4) = (b.length : Int) ∧ getV (((frmL seq b ++ z).drop 4).take 8) = seq ∧
    rdC (frmL seq b ++ z) = b.length ∧ ((frmL seq b ++ z).drop 16).take b.length = b ∧ ((frmL seq b ++ z).drop (16 + b.length)).take 4 = four (crcN b) := by
  have hh := headL_len b.length seq
  have hf := four_len (crcN (headL b.length seq))
  have hg := four_len (crcN b)
  have e : frmL seq b ++ z = headL b.length seq ++ (four (crcN (headL b.length seq)) ++ (b ++ (four (crcN b) ++ z))) := by unfold frmL; simp
  have e4 : getV ((frmL seq b ++ z).take 4) = (b.length : Int) := by
    rw [e, List.take_append_of_le_length (by rw [hh]; decide)]
    unfold headL
    rw [List.take_append_of_le_length (by rw [putL_length]; exact Nat.le_refl _), List.take_of_length_le (by rw [putL_length]; exact Nat.le_refl _), getV_putL _ _ (by omega)]
    exact Int.emod_eq_of_lt (by omega) (by omega)
  have e8 : getV (((frmL seq b ++ z).drop 4).take 8) = seq := by
    rw [e, List.drop_append_of_le_length (by rw [hh]; decide)]
    have hd : (headL b.length seq).drop 4 = putL seq 8 := by
      unfold headL
      rw [List.drop_append_of_le_length (by rw [putL_length]; exact Nat.le_refl _), List.drop_of_length_le (by rw [putL_length]; exact Nat.le_refl _)]; rfl
    rw [hd, List.take_append_of_le_length (by rw [putL_length]; exact Nat.le_refl _), List.take_of_length_le (by rw [putL_length]; exact Nat.le_refl _), getV_putL _ _ h0]
    exact Int.emod_eq_of_lt h0 (by omega)
  refine ⟨?_, ?_, e4, e8, by unfold rdC; rw [e4]; omega, ?_, ?_⟩
  · rw [e, List.take_append_of_le_length (by rw [hh]; exact Nat.le_refl _), List.take_of_length_le (by rw [hh]; exact Nat.le_refl _)]
  · rw [e, show (12 : Nat) = (headL b.length seq).length from hh.symm, List.drop_left, List.take_append_of_le_length (by rw [hf]; exact Nat.le_refl _), List.take_of_length_le (by rw [hf]; exact Nat.le_refl _)]
  · rw [e, ← List.append_assoc, show (16 : Nat) = (headL b.length seq ++ four (crcN (headL b.length seq))).length from by rw [List.length_append, hh, hf], List.drop_left, List.take_left]
  · rw [e, ← List.append_assoc, ← List.append_assoc, show 16 + b.length = (headL b.length seq ++ four (crcN (headL b.length seq)) ++ b).length from by rw [List.length_append, List.length_append, hh, hf], List.drop_left, List.take_append_of_le_length (by rw [hg]; exact Nat.le_refl _), List.take_of_length_le (by rw [hg]; exact Nat.le_refl _)]
set_option maxRecDepth 100000 in
/-- what is put is read, whatever stands behind -/
theorem rd_back (seq : Int) (b z : List Int) (h1 : 1 ≤ seq) (h64 : seq < 18446744073709551616) (hb : b.length ≤ 16384) : rdE (frmL seq b ++ z) = 0 ∧ rdS (frmL seq b ++ z) = seq ∧ rdT (frmL seq b ++ z) = b ∧ rdN (frmL seq b ++ z) = 20 + b.length := by
  obtain ⟨p1, p2, p3, p4, p5, p6, p7⟩ := frm_parts seq b z (by omega) h64 hb
  have hl : (frmL seq b ++ z).length = 20 + b.length + z.length := by rw [List.length_append, frmL_len]
  have h0 : rdE (frmL seq b ++ z) = 0 := (rdE_ok _).2 ⟨by omega, by rw [p1, p2], by rw [p4]; omega, by rw [p3]; omega, by rw [p5]; omega, by rw [p5, p6, p7]⟩
  refine ⟨h0, ?_, ?_, ?_⟩
  · unfold rdS; rw [if_pos h0, p4]
  · unfold rdT; rw [if_pos h0, p5, p6]
  · unfold rdN; rw [if_pos h0, p5]
set_option maxRecDepth 100000 in
/-- a beginning of a frame is too short -/
theorem rd_begin (seq : Int) (b : List Int) (k : Nat) (h1 : 1 ≤ seq) (h64 : seq < 18446744073709551616) (hb : b.length ≤ 16384) (hk : k < 20 + b.length) : rdE ((frmL seq b).take k) = 3 := by
  obtain ⟨p1, p2, p3, p4, p5, p6, p7⟩ := frm_parts seq b [] (by omega) h64 hb
  rw [List.append_nil] at p1 p2 p3 p4 p5 p6 p7
  have hl : ((frmL seq b).take k).length = k := by rw [List.length_take, frmL_len]; omega
  unfold rdE
  rw [hl]
  by_cases h16 : k < 16
  · rw [if_pos h16]
  · have t12 : ((frmL seq b).take k).take 12 = (frmL seq b).take 12 := by rw [List.take_take, Nat.min_eq_left (by omega)]
    have t4 : ((frmL seq b).take k).take 4 = (frmL seq b).take 4 := by rw [List.take_take, Nat.min_eq_left (by omega)]
    have d12 : (((frmL seq b).take k).drop 12).take 4 = ((frmL seq b).drop 12).take 4 := by rw [List.drop_take, List.take_take, Nat.min_eq_left (by omega)]
    have d4 : (((frmL seq b).take k).drop 4).take 8 = ((frmL seq b).drop 4).take 8 := by rw [List.drop_take, List.take_take, Nat.min_eq_left (by omega)]
    have hc : rdC ((frmL seq b).take k) = b.length := by unfold rdC; rw [t4, p3]; omega
    rw [if_neg h16, if_neg (fun h => h (by rw [d12, t12, p1, p2])), if_neg (by rw [d4, p4]; omega), if_neg (by rw [t4, p3]; omega), if_pos (by rw [hc]; exact hk)]
set_option maxRecDepth 100000 in
/-- what is read, put again, is the bytes -/
theorem rd_one (b : List Int) (hB : Byt b) (h : rdE b = 0) : frmL (rdS b) (rdT b) = b.take (rdN b) ∧ 1 ≤ rdS b ∧ rdS b < 18446744073709551616 ∧ (rdT b).length ≤ 16384 ∧ rdN b ≤ b.length ∧ (rdT b).length = rdC b := by
  obtain ⟨h1, h2, h3, h4, h5, h6⟩ := (rdE_ok b).1 h
  have b4 := getV_bd (b.take 4) (hB.take 4)
  have hB8 : Byt ((b.drop 4).take 8) := fun c hc => hB c (List.mem_of_mem_drop (List.mem_of_mem_take hc))
  have b8 := getV_bd ((b.drop 4).take 8) hB8
  have l8 : ((b.drop 4).take 8).length = 8 := by rw [List.length_take, List.length_drop]; omega
  have l4 : (b.take 4).length = 4 := by rw [List.length_take]; omega
  rw [l8] at b8
  have hT : (rdT b).length = rdC b := by unfold rdT; rw [if_pos h, List.length_take, List.length_drop]; omega
  have hC : ((rdC b : Nat) : Int) = getV (b.take 4) := by unfold rdC; omega
  have hS : rdS b = getV ((b.drop 4).take 8) := by unfold rdS; rw [if_pos h]
  have hTe : rdT b = (b.drop 16).take (rdC b) := by unfold rdT; rw [if_pos h]
  have hN : rdN b = 20 + rdC b := by unfold rdN; rw [if_pos h]
  have q4 := putL_getV (b.take 4) (hB.take 4) 0
  have q8 := putL_getV ((b.drop 4).take 8) hB8 0
  rw [l4, Int.zero_mul, Int.zero_add] at q4
  rw [l8, Int.zero_mul, Int.zero_add] at q8
  have hH : headL (rdT b).length (rdS b) = b.take 12 := by
    unfold headL
    rw [hT, hC, hS, q4, q8, ← List.take_add]
  refine ⟨?_, by rw [hS]; omega, by rw [hS]; omega, by rw [hT]; omega, by rw [hN]; exact h5, hT⟩
  unfold frmL
  rw [hH, ← h2, hTe, ← h6, hN]
  have e1 : b.take 12 ++ (b.drop 12).take 4 = b.take 16 := (List.take_add).symm
  have e2 : b.take 16 ++ (b.drop 16).take (rdC b) = b.take (16 + rdC b) := (List.take_add).symm
  have e3 : b.take (16 + rdC b) ++ (b.drop (16 + rdC b)).take 4 = b.take (16 + rdC b + 4) := (List.take_add).symm
  rw [← List.append_assoc, ← List.append_assoc, e1, e2, e3, show 16 + rdC b + 4 = 20 + rdC b from by omega]
set_option maxRecDepth 100000 in
theorem byte_eq {a b : Int} (ha : 0 ≤ a ∧ a ≤ 255) (hb : 0 ≤ b ∧ b ≤ 255) (h : ∀ i, i < 8 → a.toNat.testBit i = b.toNat.testBit i) : a = b := by
  have : a.toNat = b.toNat := by
    apply Nat.eq_of_testBit_eq
    intro i
    by_cases hi : i < 8
    · exact h i hi
    · have hp : 2 ^ 8 ≤ 2 ^ i := Nat.pow_le_pow_right (by decide) (by omega)
      rw [Nat.testBit_lt_two_pow (Nat.lt_of_lt_of_le (show a.toNat < 2 ^ 8 by omega) hp), Nat.testBit_lt_two_pow (Nat.lt_of_lt_of_le (show b.toNat < 2 ^ 8 by omega) hp)]
  omega
set_option maxRecDepth 100000 in
theorem getD_take_drop (l : List Int) (o n i : Nat) (h : i < n) : ((l.drop o).take n).getD i 0 = l.getD (o + i) 0 := by
  rw [List.getD_eq_getElem?_getD, List.getElem?_take, if_pos h, List.getElem?_drop, ← List.getD_eq_getElem?_getD]
set_option maxRecDepth 100000 in
/-- of a frame at most 32 bits in a row are turned: it is not read -/
theorem rd_burst (seq : Int) (b z f' : List Int) (at_ : Nat) (ef : Nat → Bool) (h1 : 1 ≤ seq) (h64 : seq < 18446744073709551616) (hb : b.length ≤ 16384) (hB : Byt b) (hl : f'.length = 20 + b.length) (hF : Byt f')
    (hbit : ∀ p, p < 8 * (20 + b.length) → (f'.getD (p / 8) 0).toNat.testBit (p % 8) = (((frmL seq b).getD (p / 8) 0).toNat.testBit (p % 8) ^^ ef p))
    (hw : ∀ p, ef p = true → at_ ≤ p ∧ p < at_ + 32) (hx : ∃ p, p < 8 * (20 + b.length) ∧ ef p = true) : rdE (f' ++ z) ≠ 0 := by
  obtain ⟨p1, p2, p3, p4, p5, p6, p7⟩ := frm_parts seq b [] (by omega) h64 hb
  rw [List.append_nil] at p1 p2 p3 p4 p5 p6 p7
  have hfl := frmL_len seq b
  have hfb := frmL_byt seq b hB
  intro h
  obtain ⟨k1, k2, k3, k4, k5, k6⟩ := (rdE_ok _).1 h
  have tk : ∀ n, n ≤ 20 + b.length → (f' ++ z).take n = f'.take n := fun n hn => List.take_append_of_le_length (by omega)
  have dk : ∀ o n, o + n ≤ 20 + b.length → ((f' ++ z).drop o).take n = (f'.drop o).take n := fun o n hn => by
    rw [List.drop_append_of_le_length (by omega), List.take_append_of_le_length (by rw [List.length_drop]; omega)]
  have bF : ∀ o n, Byt ((f'.drop o).take n) := fun o n c hc => hF c (List.mem_of_mem_drop (List.mem_of_mem_take hc))
  by_cases hhead : ∃ p, p < 128 ∧ ef p = true
  · rw [tk 12 (by omega), dk 12 4 (by omega)] at k2
    refine turned_bad (headL b.length seq) (four (crcN (headL b.length seq))) (f'.take 12) ((f'.drop 12).take 4) at_ ef rfl (by rw [List.length_take, List.length_drop]; omega) (by rw [List.length_take, headL_len]; omega) (headL_byt _ _) (four_byt _) (hF.take 12) (bF 12 4) rfl (fun p hp => ?_) hw ?_ k2
    · rw [headL_len] at hp
      have e1 : f'.take 12 ++ (f'.drop 12).take 4 = (f'.drop 0).take 16 := by rw [List.drop_zero]; exact (List.take_add).symm
      have e2 : headL b.length seq ++ four (crcN (headL b.length seq)) = ((frmL seq b).drop 0).take 16 := by
        have : (frmL seq b).take 12 ++ ((frmL seq b).drop 12).take 4 = (frmL seq b).take 16 := (List.take_add).symm
        rw [List.drop_zero, ← this, p1, p2]
      rw [e1, e2, getD_take_drop _ _ _ _ (by omega), getD_take_drop _ _ _ _ (by omega), Nat.zero_add]
      exact hbit p (by omega)
    · obtain ⟨p, hp, he⟩ := hhead
      exact ⟨p, by rw [headL_len]; omega, he⟩
  · have hsame : ∀ i, i < 16 → f'.getD i 0 = (frmL seq b).getD i 0 := by
      intro i hi
      have g1 : 0 ≤ f'.getD i 0 ∧ f'.getD i 0 ≤ 255 := by rw [List.getD_eq_getElem?_getD, List.getElem?_eq_getElem (by omega)]; exact hF _ (List.getElem_mem _)
      have g2 : 0 ≤ (frmL seq b).getD i 0 ∧ (frmL seq b).getD i 0 ≤ 255 := by rw [List.getD_eq_getElem?_getD, List.getElem?_eq_getElem (by omega)]; exact hfb _ (List.getElem_mem _)
      refine byte_eq g1 g2 (fun j hj => ?_)
      have hb := hbit (8 * i + j) (by omega)
      rw [show (8 * i + j) / 8 = i from by omega, show (8 * i + j) % 8 = j from by omega] at hb
      rw [hb]
      cases he : ef (8 * i + j) with
      | false => simp
      | true => exact absurd ⟨8 * i + j, by omega, he⟩ hhead
    have h4 : f'.take 4 = (frmL seq b).take 4 := by
      apply List.ext_getElem?
      intro i
      by_cases hi : i < 4
      · have := hsame i (by omega)
        rw [List.getD_eq_getElem?_getD, List.getElem?_eq_getElem (by omega), List.getD_eq_getElem?_getD, List.getElem?_eq_getElem (by omega)] at this
        rw [List.getElem?_take, if_pos hi, List.getElem?_take, if_pos hi, List.getElem?_eq_getElem (by omega), List.getElem?_eq_getElem (by omega)]
        exact congrArg some this
      · rw [List.getElem?_take, if_neg hi, List.getElem?_take, if_neg hi]
    have hC : rdC (f' ++ z) = b.length := by unfold rdC; rw [tk 4 (by omega), h4, p3]; omega
    rw [hC, dk (16 + b.length) 4 (by omega), dk 16 b.length (by omega)] at k6
    refine turned_bad b (four (crcN b)) ((f'.drop 16).take b.length) ((f'.drop (16 + b.length)).take 4) (at_ - 128) (fun p => ef (p + 128)) rfl (by rw [List.length_take, List.length_drop]; omega) (by rw [List.length_take, List.length_drop]; omega) hB (four_byt _) (bF _ _) (bF _ _) rfl (fun p hp => ?_) (fun p hp => ?_) ?_ k6
    · have e1 : (f'.drop 16).take b.length ++ (f'.drop (16 + b.length)).take 4 = (f'.drop 16).take (b.length + 4) := by rw [← List.drop_drop]; exact (List.take_add).symm
      have e2 : b ++ four (crcN b) = ((frmL seq b).drop 16).take (b.length + 4) := by
        have : ((frmL seq b).drop 16).take b.length ++ (((frmL seq b).drop 16).drop b.length).take 4 = ((frmL seq b).drop 16).take (b.length + 4) := (List.take_add).symm
        rw [← this, List.drop_drop, p6, p7]
      rw [e1, e2, getD_take_drop _ _ _ _ (by omega), getD_take_drop _ _ _ _ (by omega)]
      have hb := hbit (p + 128) (by omega)
      rw [show (p + 128) / 8 = 16 + p / 8 from by omega, show (p + 128) % 8 = p % 8 from by omega] at hb
      exact hb
    · have := hw _ hp
      omega
    · obtain ⟨p, hp, he⟩ := hx
      have hge : 128 ≤ p := by
        refine Classical.byContradiction fun hn => hhead ⟨p, by omega, he⟩
      exact ⟨p - 128, by omega, by show ef (p - 128 + 128) = true; rw [show p - 128 + 128 = p from by omega]; exact he⟩
end Go.Proofs.YtjnjokbdoendkaaGreat
