/- An entry's bytes, read from the left. No walk. What clash reckons: leaves of texts, which texts clash, the first clash on two ways up; that there is one where two ways lead to one root and part: no walk. -/
import Derived.Test.YtbednfacipphhaaDoorAuae
import Derived.Test.YtbednfacipphhaaDoorAuas
import Derived.Test.YtbednfacipphhaaDoorAuaw
namespace Go.Proofs.YtbednfacipphhaaDoor
open Go.RowKit
set_option linter.unusedVariables false

/-- what is left, and whether something was missing -/
abbrev Rs := List Int × Bool
def numR (m : Int) (s : Rs) : Int × Rs := if (rd s.1 0 0).2.2 = 0 ∧ (rd s.1 0 0).1 ≤ m then ((rd s.1 0 0).1, (s.1.drop (rdn s.1), s.2)) else (0, (s.1, true))
def takR (k : Nat) (s : Rs) : List Int × Rs := if k ≤ s.1.length then (s.1.take k, (s.1.drop k, s.2)) else ([], (s.1, true))
def oneR (s : Rs) : Int × Rs := (if (takR 1 s).2.2 = true then 0 else (takR 1 s).1.getD 0 0, (takR 1 s).2)
def fill (t : List Int) : List Int := t ++ List.replicate (32 - t.length) 0
def digR (s : Rs) : List Int × Rs := (fill (takR 32 s).1, (takR 32 s).2)
def entR1 (s : Rs) := numR 63 s
def entR2 (s : Rs) := numR 1099511627776 (entR1 s).2
def entR3 (s : Rs) := digR (entR2 s).2
def entR4 (s : Rs) := digR (entR3 s).2
def entR5 (s : Rs) := oneR (entR4 s).2
def entR6 (s : Rs) := numR 1073741824 (entR5 s).2
def entR7 (s : Rs) := numR 64 (entR6 s).2
def entR8 (s : Rs) := takR (entR7 s).1.toNat (entR7 s).2
def entE (s : Rs) : En := ⟨(entR1 s).1, (entR2 s).1, (entR3 s).1, (entR4 s).1, (entR5 s).1, (entR6 s).1, (entR8 s).1⟩
set_option maxRecDepth 100000 in
theorem numR_byt {m : Int} {s : Rs} (h : Byt s.1) : Byt (numR m s).2.1 := by
  unfold numR; split
  · exact fun c hc => h c (List.mem_of_mem_drop hc)
  · exact h
set_option maxRecDepth 100000 in
theorem takR_byt {k : Nat} {s : Rs} (h : Byt s.1) : Byt (takR k s).2.1 ∧ Byt (takR k s).1 := by
  unfold takR; split
  · exact ⟨fun c hc => h c (List.mem_of_mem_drop hc), h.take k⟩
  · exact ⟨h, Byt.nil⟩
set_option maxRecDepth 100000 in
theorem numR_bd {m : Int} {s : Rs} (h : Byt s.1) (hm : 0 ≤ m) : 0 ≤ (numR m s).1 ∧ (numR m s).1 ≤ m := by
  unfold numR; split
  · next hc => exact ⟨(rd_bd s.1 0 0 h (by omega) (by omega) (by decide)).1, hc.2⟩
  · exact ⟨Int.le_refl _, hm⟩
set_option maxRecDepth 100000 in
theorem rep_byt (k : Nat) : Byt (List.replicate k 0) := fun c hc => by rw [List.eq_of_mem_replicate hc]; decide
set_option maxRecDepth 100000 in
theorem takR_len {k : Nat} {s : Rs} : (takR k s).1.length ≤ k := by
  unfold takR; split
  · rw [List.length_take]; omega
  · exact Nat.zero_le _
set_option maxRecDepth 100000 in
theorem fill_dig {t : List Int} (h : Byt t) (hl : t.length ≤ 32) : Dig (fill t) := ⟨by unfold fill; rw [List.length_append, List.length_replicate]; omega, h.append (rep_byt _)⟩
set_option maxRecDepth 100000 in
theorem digR_dig {s : Rs} (h : Byt s.1) : Dig (digR s).1 := fill_dig (takR_byt h).2 takR_len
set_option maxRecDepth 100000 in
theorem digR_byt {s : Rs} (h : Byt s.1) : Byt (digR s).2.1 := (takR_byt h).1
set_option maxRecDepth 100000 in
theorem oneR_byt {s : Rs} (h : Byt s.1) : Byt (oneR s).2.1 := (takR_byt h).1
set_option maxRecDepth 100000 in
theorem entE_dig {s : Rs} (h : Byt s.1) : Dig (entE s).H ∧ Dig (entE s).S := ⟨digR_dig (numR_byt (numR_byt h)), digR_dig (digR_byt (numR_byt (numR_byt h)))⟩
set_option maxRecDepth 100000 in
/-- back -/
theorem numR_back {m : Int} {s : Rs} (hb : Byt s.1) (h : (numR m s).2.2 = false) : s.2 = false ∧ 0 ≤ (numR m s).1 ∧ (numR m s).1 ≤ m ∧ s.1 = varL (numR m s).1 ++ (numR m s).2.1 := by
  unfold numR at h ⊢
  by_cases hc : (rd s.1 0 0).2.2 = 0 ∧ (rd s.1 0 0).1 ≤ m
  · rw [if_pos hc] at h ⊢
    have hr : rd s.1 0 0 = ((rd s.1 0 0).1, (rd s.1 0 0).2.1, 0) := Prod.ext rfl (Prod.ext rfl hc.1)
    obtain ⟨n, _, h2, h3, h4, h5⟩ := rd_back hb hr
    refine ⟨h, h4, hc.2, ?_⟩
    show s.1 = varL (rd s.1 0 0).1 ++ s.1.drop (rdn s.1)
    rw [h5, show rdn s.1 = n from by unfold rdn; omega, List.take_append_drop]
  · rw [if_neg hc] at h; cases h
set_option maxRecDepth 100000 in
theorem takR_back {k : Nat} {s : Rs} (h : (takR k s).2.2 = false) : s.2 = false ∧ (takR k s).1.length = k ∧ s.1 = (takR k s).1 ++ (takR k s).2.1 := by
  unfold takR at h ⊢
  by_cases hc : k ≤ s.1.length
  · rw [if_pos hc] at h ⊢
    exact ⟨h, by show (s.1.take k).length = k; rw [List.length_take]; omega, (List.take_append_drop _ _).symm⟩
  · rw [if_neg hc] at h; cases h
set_option maxRecDepth 100000 in
theorem oneR_back {s : Rs} (h : (oneR s).2.2 = false) : s.2 = false ∧ s.1 = [(oneR s).1] ++ (oneR s).2.1 := by
  obtain ⟨h1, h2, h3⟩ := takR_back (k := 1) (s := s) h
  refine ⟨h1, ?_⟩
  have h4 : (takR 1 s).2.2 = false := h
  unfold oneR
  simp only [h4, Bool.false_eq_true, if_false]
  rw [h3]
  generalize (takR 1 s).1 = t at h2 h3
  match t, h2 with
  | [x], _ => rfl
set_option maxRecDepth 100000 in
theorem digR_back {s : Rs} (h : (digR s).2.2 = false) : s.2 = false ∧ s.1 = (digR s).1 ++ (digR s).2.1 := by
  obtain ⟨h1, h2, h3⟩ := takR_back (k := 32) (s := s) h
  refine ⟨h1, ?_⟩
  show s.1 = fill (takR 32 s).1 ++ (takR 32 s).2.1
  unfold fill
  rw [h2, Nat.sub_self, List.replicate_zero, List.append_nil]
  exact h3
set_option maxRecDepth 100000 in
theorem varL_one (x : Int) (h : x < 128) : varL x = [x] := varF_small 9 x h
set_option maxRecDepth 100000 in
theorem chain_back {b : List Int} (hb : Byt b) (x1 x2 : Int × Rs) (x3 x4 : List Int × Rs) (x5 x6 x7 : Int × Rs) (x8 : List Int × Rs) (q1 : numR 63 (b, false) = x1) (q2 : numR 1099511627776 x1.2 = x2) (q3 : digR x2.2 = x3) (q4 : digR x3.2 = x4) (q5 : oneR x4.2 = x5) (q6 : numR 1073741824 x5.2 = x6) (q7 : numR 64 x6.2 = x7) (q8 : takR x7.1.toNat x7.2 = x8) (h : x8.2 = ([], false)) :
    enL ⟨x1.1, x2.1, x3.1, x4.1, x5.1, x6.1, x8.1⟩ = b := by
  have y1 : Byt x1.2.1 := by rw [← q1]; exact numR_byt hb
  have y2 : Byt x2.2.1 := by rw [← q2]; exact numR_byt y1
  have y3 : Byt x3.2.1 := by rw [← q3]; exact digR_byt y2
  have y4 : Byt x4.2.1 := by rw [← q4]; exact digR_byt y3
  have y5 : Byt x5.2.1 := by rw [← q5]; exact oneR_byt y4
  have y6 : Byt x6.2.1 := by rw [← q6]; exact numR_byt y5
  obtain ⟨f8, l8, e8⟩ := takR_back (k := x7.1.toNat) (s := x7.2) (by rw [q8, h])
  rw [q8] at l8 e8
  obtain ⟨f7, a7, b7, e7⟩ := numR_back (m := 64) (s := x6.2) y6 (by rw [q7]; exact f8)
  rw [q7] at a7 b7 e7
  obtain ⟨f6, a6, b6, e6⟩ := numR_back (m := 1073741824) (s := x5.2) y5 (by rw [q6]; exact f7)
  rw [q6] at e6
  obtain ⟨f5, e5⟩ := oneR_back (s := x4.2) (by rw [q5]; exact f6)
  rw [q5] at e5
  obtain ⟨f4, e4⟩ := digR_back (s := x3.2) (by rw [q4]; exact f5)
  rw [q4] at e4
  obtain ⟨f3, e3⟩ := digR_back (s := x2.2) (by rw [q3]; exact f4)
  rw [q3] at e3
  obtain ⟨f2, a2, b2, e2⟩ := numR_back (m := 1099511627776) (s := x1.2) y1 (by rw [q2]; exact f3)
  rw [q2] at e2
  obtain ⟨f1, a1, b1, e1⟩ := numR_back (m := 63) (s := (b, false)) hb (by rw [q1]; exact f2)
  rw [q1] at e1
  rw [h, List.append_nil] at e8
  have e1' : b = varL x1.1 ++ x1.2.1 := e1
  unfold enL
  simp only
  rw [show (x8.1.length : Int) = x7.1 from by omega, ← varL_one x7.1 (by omega), ← e8, ← e7, ← e6, ← e5, ← e4, ← e3, ← e2, ← e1']
set_option maxRecDepth 100000 in
theorem entR_back {b : List Int} (hb : Byt b) (h : (entR8 (b, false)).2 = ([], false)) : enL (entE (b, false)) = b :=
  chain_back hb (entR1 (b, false)) (entR2 (b, false)) (entR3 (b, false)) (entR4 (b, false)) (entR5 (b, false)) (entR6 (b, false)) (entR7 (b, false)) (entR8 (b, false)) rfl rfl rfl rfl rfl rfl rfl rfl h
set_option maxRecDepth 100000 in
/-- there -/
theorem numR_there {m x : Int} (h0 : 0 ≤ x) (h1 : x ≤ m) (hm : m ≤ 18446744073709551615) (t : List Int) (f : Bool) : numR m (varL x ++ t, f) = (x, (t, f)) := by
  unfold numR rdn
  have hr := rd_var x h0 (by omega) t
  simp only [hr]
  rw [if_pos ⟨trivial, h1⟩, drop_len]
set_option maxRecDepth 100000 in
theorem takR_there (a t : List Int) (f : Bool) : takR a.length (a ++ t, f) = (a, (t, f)) := by
  unfold takR
  rw [if_pos (by show a.length ≤ (a ++ t).length; rw [List.length_append]; omega)]
  simp
set_option maxRecDepth 100000 in
theorem digR_there {a t : List Int} (h : a.length = 32) (f : Bool) : digR (a ++ t, f) = (a, (t, f)) := by
  have h1 := takR_there a t f
  rw [h] at h1
  unfold digR
  rw [h1]
  unfold fill
  simp [h]
set_option maxRecDepth 100000 in
theorem oneR_there (x : Int) (t : List Int) : oneR ([x] ++ t, false) = (x, (t, false)) := by
  have h1 := takR_there [x] t false
  unfold oneR
  rw [show takR 1 ([x] ++ t, false) = ([x], (t, false)) from h1]
  rfl
set_option maxRecDepth 100000 in
theorem entR_there {e : En} (h : canN e = true) (hH : Dig e.H) (hS : Dig e.S) : entE (enL e, false) = e ∧ (entR8 (enL e, false)).2 = ([], false) := by
  obtain ⟨h1, _, h3⟩ := (canN_iff e).1 h
  have hn := (numO_iff e).1 h1
  have hl := ordO_len h3
  obtain ⟨j, t, H, S, k, r, o⟩ := e
  simp only at hn hH hS hl
  have q1 : entR1 (enL ⟨j, t, H, S, k, r, o⟩, false) = (j, (varL t ++ (H ++ (S ++ ([k] ++ (varL r ++ ([(o.length : Int)] ++ o))))), false)) := numR_there (m := 63) (x := j) (by omega) (by omega) (by omega) _ _
  have q2 : entR2 (enL ⟨j, t, H, S, k, r, o⟩, false) = (t, (H ++ (S ++ ([k] ++ (varL r ++ ([(o.length : Int)] ++ o)))), false)) := by unfold entR2; rw [q1]; exact numR_there (by omega) (by omega) (by omega) _ _
  have q3 : entR3 (enL ⟨j, t, H, S, k, r, o⟩, false) = (H, (S ++ ([k] ++ (varL r ++ ([(o.length : Int)] ++ o))), false)) := by unfold entR3; rw [q2]; exact digR_there hH.1 _
  have q4 : entR4 (enL ⟨j, t, H, S, k, r, o⟩, false) = (S, ([k] ++ (varL r ++ ([(o.length : Int)] ++ o)), false)) := by unfold entR4; rw [q3]; exact digR_there hS.1 _
  have q5 : entR5 (enL ⟨j, t, H, S, k, r, o⟩, false) = (k, (varL r ++ ([(o.length : Int)] ++ o), false)) := by unfold entR5; rw [q4]; exact oneR_there _ _
  have q6 : entR6 (enL ⟨j, t, H, S, k, r, o⟩, false) = (r, ([(o.length : Int)] ++ o, false)) := by unfold entR6; rw [q5]; exact numR_there (by omega) (by omega) (by omega) _ _
  have q7 : entR7 (enL ⟨j, t, H, S, k, r, o⟩, false) = ((o.length : Int), (o, false)) := by
    unfold entR7; rw [q6, ← varL_one (o.length : Int) (by omega)]; exact numR_there (by omega) (by omega) (by omega) _ _
  have q8 : entR8 (enL ⟨j, t, H, S, k, r, o⟩, false) = (o, ([], false)) := by
    unfold entR8; rw [q7]
    show takR ((o.length : Int)).toNat (o, false) = _
    have := takR_there o [] false
    rw [List.append_nil] at this
    rw [Int.toNat_natCast]; exact this
  exact ⟨by unfold entE; rw [q1, q2, q3, q4, q5, q6, q8], by rw [q8]⟩
set_option maxRecDepth 100000 in
/-- which entry bytes say, read so -/
theorem decN_read {b : List Int} (hb : Byt b) : decN b = if (entR8 (b, false)).2 = ([], false) ∧ canN (entE (b, false)) = true then (entE (b, false), 0) else (en0, 4) := by
  by_cases hc : (entR8 (b, false)).2 = ([], false) ∧ canN (entE (b, false)) = true
  · rw [if_pos hc]
    have h1 := entR_back hb hc.1
    have h2 := entE_dig (s := (b, false)) hb
    have h3 := decN_enL hc.2 h2.1 h2.2
    rw [h1] at h3
    exact h3
  · rw [if_neg hc]
    rcases decN_err b with h | h
    · exfalso
      obtain ⟨h1, h2, h3⟩ := decN_back h
      obtain ⟨h4, h5⟩ := rdN_dig hb h3
      obtain ⟨h6, h7⟩ := entR_there h1 h4 h5
      rw [h2] at h6 h7
      exact hc ⟨h7, by rw [h6]; exact h1⟩
    · exact h
set_option maxRecDepth 100000 in
/-- what the document's own reading comes to -/
theorem rdN_is {b : List Int} {p q : Nat} {u1 u2 u3 : Int} (h1 : (rd b 0 0).1 = u1) (e1 : (rd b 0 0).2.2 = 0) (h2 : (rd (b.drop (rdn b)) 0 0).1 = u2) (e2 : (rd (b.drop (rdn b)) 0 0).2.2 = 0) (hp : rdn b + rdn (b.drop (rdn b)) = p) (hl : p + 65 ≤ b.length)
    (h3 : (rd (b.drop (p + 65)) 0 0).1 = u3) (e3 : (rd (b.drop (p + 65)) 0 0).2.2 = 0) (hq : p + 65 + rdn (b.drop (p + 65)) = q) (hq2 : q < b.length) :
    rdN b = some ⟨u1, u2, (b.drop p).take 32, (b.drop (p + 32)).take 32, b.getD (p + 64) 0, u3, b.drop (q + 1)⟩ := by
  have d2 : (b.drop (rd b 0 0).2.1.toNat).drop (rd (b.drop (rd b 0 0).2.1.toNat) 0 0).2.1.toNat = b.drop p := by rw [List.drop_drop, ← hp]; rfl
  have d3 : (b.drop p).drop 65 = b.drop (p + 65) := by rw [List.drop_drop]
  have d4 : (b.drop (p + 65)).drop (rd (b.drop (p + 65)) 0 0).2.1.toNat = b.drop q := by rw [List.drop_drop, ← hq]; rfl
  have e2' : (rd (b.drop (rd b 0 0).2.1.toNat) 0 0).2.2 = 0 := e2
  have h2' : (rd (b.drop (rd b 0 0).2.1.toNat) 0 0).1 = u2 := h2
  unfold rdN
  simp only [d2, d3, d4, e1, e2', e3, h1, h2', h3, ne_eq, not_true_eq_false, if_false]
  rw [if_neg (by rw [List.length_drop]; omega), if_neg (by rw [List.length_drop]; omega)]
  have g1 : (b.drop p).getD 64 0 = b.getD (p + 64) 0 := by rw [List.getD_eq_getElem?_getD, List.getElem?_drop, ← List.getD_eq_getElem?_getD]
  rw [g1, List.drop_drop, List.drop_drop]
set_option maxRecDepth 100000 in
theorem rdN_in {b : List Int} {e : En} (h : rdN b = some e) : (rd b 0 0).2.2 = 0 ∧ e.j = (rd b 0 0).1 ∧ (rd (b.drop (rdn b)) 0 0).2.2 = 0 ∧ e.t = (rd (b.drop (rdn b)) 0 0).1 ∧ rdn b + rdn (b.drop (rdn b)) + 65 ≤ b.length := by
  unfold rdN at h
  simp only at h
  split at h
  · cases h
  next f1 =>
  split at h
  · cases h
  next f2 =>
  split at h
  · cases h
  next f3 =>
  split at h
  · cases h
  split at h
  · cases h
  cases h
  rw [List.drop_drop, List.length_drop] at f3
  refine ⟨Decidable.not_not.1 f1, rfl, Decidable.not_not.1 f2, rfl, ?_⟩
  unfold rdn
  omega
set_option maxRecDepth 100000 in
theorem rdN_in2 {b : List Int} {e : En} {p : Nat} (h : rdN b = some e) (hp : rdn b + rdn (b.drop (rdn b)) = p) : (rd (b.drop (p + 65)) 0 0).2.2 = 0 ∧ e.r = (rd (b.drop (p + 65)) 0 0).1 ∧ p + 65 + rdn (b.drop (p + 65)) < b.length := by
  have d2 : (b.drop (rd b 0 0).2.1.toNat).drop (rd (b.drop (rd b 0 0).2.1.toNat) 0 0).2.1.toNat = b.drop p := by rw [List.drop_drop, ← hp]; rfl
  have d3 : (b.drop p).drop 65 = b.drop (p + 65) := by rw [List.drop_drop]
  unfold rdN at h
  simp only [d2, d3] at h
  split at h
  · cases h
  split at h
  · cases h
  split at h
  · cases h
  split at h
  · cases h
  next f4 =>
  split at h
  · cases h
  next f5 =>
  cases h
  rw [List.drop_drop, List.length_drop] at f5
  exact ⟨Decidable.not_not.1 f4, rfl, by unfold rdn; omega⟩
set_option maxRecDepth 100000 in
/-- why the document's own reading ends before -/
theorem decN_no1 {b : List Int} (h : (rd b 0 0).2.2 ≠ 0 ∨ (rd (b.drop (rdn b)) 0 0).2.2 ≠ 0 ∨ 63 < (rd b 0 0).1 ∨ 1099511627776 < (rd (b.drop (rdn b)) 0 0).1 ∨ b.length < rdn b + rdn (b.drop (rdn b)) + 65) : decN b = (en0, 4) := by
  rcases decN_err b with hk | hk
  · exfalso
    obtain ⟨h1, h2, h3⟩ := decN_back hk
    have hn := (numO_iff _).1 ((canN_iff _).1 h1).1
    obtain ⟨g1, g2, g3, g4, g5⟩ := rdN_in h3
    rcases h with h | h | h | h | h
    · exact h g1
    · exact h g3
    · omega
    · omega
    · omega
  · exact hk
set_option maxRecDepth 100000 in
theorem decN_no2 {b : List Int} {p : Nat} (hp : rdn b + rdn (b.drop (rdn b)) = p) (h : (rd (b.drop (p + 65)) 0 0).2.2 ≠ 0 ∨ 1073741824 < (rd (b.drop (p + 65)) 0 0).1 ∨ b.length ≤ p + 65 + rdn (b.drop (p + 65))) : decN b = (en0, 4) := by
  rcases decN_err b with hk | hk
  · exfalso
    obtain ⟨h1, h2, h3⟩ := decN_back hk
    have hn := (numO_iff _).1 ((canN_iff _).1 h1).1
    obtain ⟨g1, g2, g3⟩ := rdN_in2 h3 hp
    rcases h with h | h | h
    · exact h g1
    · omega
    · omega
  · exact hk
end Go.Proofs.YtbednfacipphhaaDoor
namespace Go.Proofs.YtbednfacipphhaaDoor
open Go.RowKit
set_option linter.unusedVariables false

/-- the leaves of texts -/
def leavesL (T : List (List Int)) (x : Int) : List (List Int) := T.map fun b => leafL b x
set_option maxRecDepth 100000 in
theorem leavesL_len (T : List (List Int)) (x : Int) : (leavesL T x).length = T.length := by simp [leavesL]
set_option maxRecDepth 100000 in
theorem leavesL_dg (T : List (List Int)) (x : Int) : Dgl (leavesL T x) := by
  intro d hd
  obtain ⟨b, _, rfl⟩ := List.mem_map.1 hd
  exact leafL_dg b x
set_option maxRecDepth 100000 in
theorem leavesL_getD (T : List (List Int)) (x : Int) (i : Nat) (hi : i < T.length) : (leavesL T x).getD i [] = leafL (T.getD i []) x := by
  unfold leavesL
  rw [List.getD_eq_getElem?_getD, List.getElem?_map, List.getElem?_eq_getElem hi, List.getD_eq_getElem?_getD, List.getElem?_eq_getElem hi]; rfl
set_option maxRecDepth 100000 in
theorem leavesL_more (T : List (List Int)) (x : Int) (k : Nat) (hk : k < T.length) : leavesL (T.take (k + 1)) x = leavesL (T.take k) x ++ [leafL (T.getD k []) x] := by
  unfold leavesL
  rw [List.take_succ_eq_append_getElem hk, List.map_append, List.getD_eq_getElem?_getD, List.getElem?_eq_getElem hk]; rfl

/-- two texts clash -/
def clashB (a b : List Int) (x : Int) : Bool := !decide (a = b) && decide (cutL (sumL a) x = cutL (sumL b) x)
set_option maxRecDepth 100000 in
theorem clashB_self (a : List Int) (x : Int) : clashB a a x = false := by simp [clashB]
set_option maxRecDepth 100000 in
theorem clashB_iff (a b : List Int) (x : Int) : clashB a b x = true ↔ a ≠ b ∧ cutL (sumL a) x = cutL (sumL b) x := by simp [clashB]

/-- what a node is made of -/
def kids (b : Bool) (d p : List Int) : List Int := if b then p ++ d else d ++ p
set_option maxRecDepth 100000 in
theorem kids_byt {b : Bool} {d p : List Int} (hd : Dg d) (hp : Dg p) : Byt (kids b d p) := by
  unfold kids; split
  · exact hp.2.append hd.2
  · exact hd.2.append hp.2
set_option maxRecDepth 100000 in
theorem kids_len {b : Bool} {d p : List Int} (hd : Dg d) (hp : Dg p) : (kids b d p).length = 64 := by
  unfold kids; split <;> rw [List.length_append, hd.1, hp.1]
set_option maxRecDepth 100000 in
theorem kids_inj {b : Bool} {d p e q : List Int} (hd : Dg d) (hp : Dg p) (he : Dg e) (hq : Dg q) (h : kids b d p = kids b e q) : d = e ∧ p = q := by
  unfold kids at h
  cases b with
  | true => have := List.append_inj h (by rw [hp.1, hq.1]); exact ⟨this.2, this.1⟩
  | false => exact List.append_inj h (by rw [hd.1, he.1])
set_option maxRecDepth 100000 in
theorem node_kids (b : Bool) (d p : List Int) (x : Int) : (if b then nodeL p d x else nodeL d p x) = cutL (sumL (1 :: kids b d p)) x := by
  unfold kids nodeL; cases b <;> rfl

/-- up on two ways at once: the first clash -/
def climbL (x : Int) : List Bool → List (List Int) → List (List Int) → List Int → List Int → Option (List Int × List Int)
  | b :: bs, p :: ps, q :: qs, X, Y =>
    if clashB (1 :: kids b X p) (1 :: kids b Y q) x then some (1 :: kids b X p, 1 :: kids b Y q)
    else climbL x bs ps qs (cutL (sumL (1 :: kids b X p)) x) (cutL (sumL (1 :: kids b Y q)) x)
  | _, _, _, _, _ => none
set_option maxRecDepth 100000 in
theorem climb_end (x : Int) (ps qs : List (List Int)) (X Y : List Int) : climbL x [] ps qs X Y = none := by cases ps <;> cases qs <;> rfl
set_option maxRecDepth 100000 in
theorem climb_yes (x : Int) (b : Bool) (bs : List Bool) (p q : List Int) (ps qs : List (List Int)) (X Y : List Int) (h : clashB (1 :: kids b X p) (1 :: kids b Y q) x = true) : climbL x (b :: bs) (p :: ps) (q :: qs) X Y = some (1 :: kids b X p, 1 :: kids b Y q) := by
  rw [climbL, if_pos h]
set_option maxRecDepth 100000 in
theorem climb_no (x : Int) (b : Bool) (bs : List Bool) (p q : List Int) (ps qs : List (List Int)) (X Y : List Int) (h : clashB (1 :: kids b X p) (1 :: kids b Y q) x = false) : climbL x (b :: bs) (p :: ps) (q :: qs) X Y = climbL x bs ps qs (cutL (sumL (1 :: kids b X p)) x) (cutL (sumL (1 :: kids b Y q)) x) := by
  rw [climbL, if_neg (by rw [h]; decide)]
set_option maxRecDepth 100000 in
theorem climb_some (x : Int) : ∀ (bs : List Bool) (ps qs : List (List Int)) (X Y A B : List Int), climbL x bs ps qs X Y = some (A, B) → clashB A B x = true := by
  intro bs
  induction bs with
  | nil => intro ps qs X Y A B h; rw [climb_end] at h; cases h
  | cons b bs ih =>
    intro ps qs X Y A B h
    cases ps with
    | nil => cases h
    | cons p ps =>
      cases qs with
      | nil => cases h
      | cons q qs =>
        cases hc : clashB (1 :: kids b X p) (1 :: kids b Y q) x with
        | true => rw [climb_yes x b bs p q ps qs X Y hc] at h; cases h; exact hc
        | false => rw [climb_no x b bs p q ps qs X Y hc] at h; exact ih _ _ _ _ _ _ h
set_option maxRecDepth 100000 in
/-- where there is none, two ways to one root are the same -/
theorem climb_none (x : Int) : ∀ (bs : List Bool) (ps qs : List (List Int)) (X Y : List Int), ps.length = bs.length → qs.length = bs.length → Dgl ps → Dgl qs → Dg X → Dg Y → climbL x bs ps qs X Y = none → upL x bs ps X = upL x bs qs Y → X = Y ∧ ps = qs := by
  intro bs
  induction bs with
  | nil =>
    intro ps qs X Y hp hq _ _ _ _ _ h
    obtain rfl := List.eq_nil_of_length_eq_zero hp
    obtain rfl := List.eq_nil_of_length_eq_zero hq
    exact ⟨h, rfl⟩
  | cons b bs ih =>
    intro ps qs X Y hp hq dp dq dX dY hn h
    cases ps with
    | nil => simp at hp
    | cons p ps =>
      cases qs with
      | nil => simp at hq
      | cons q qs =>
        have hpd := dp p (by simp)
        have hqd := dq q (by simp)
        cases hc : clashB (1 :: kids b X p) (1 :: kids b Y q) x with
        | true => rw [climb_yes x b bs p q ps qs X Y hc] at hn; cases hn
        | false =>
          rw [climb_no x b bs p q ps qs X Y hc] at hn
          have h' : upL x bs ps (cutL (sumL (1 :: kids b X p)) x) = upL x bs qs (cutL (sumL (1 :: kids b Y q)) x) := by
            rw [← node_kids, ← node_kids]; exact h
          obtain ⟨e1, e2⟩ := ih ps qs _ _ (by simpa using hp) (by simpa using hq) (fun d hd => dp d (by simp [hd])) (fun d hd => dq d (by simp [hd])) (cutL_dg (sum_byt _) x) (cutL_dg (sum_byt _) x) hn h'
          have e3 : (1 :: kids b X p) = (1 :: kids b Y q) := by
            by_cases e : (1 :: kids b X p) = (1 :: kids b Y q)
            · exact e
            · rw [(clashB_iff _ _ x).2 ⟨e, e1⟩] at hc; cases hc
          obtain ⟨e4, e5⟩ := kids_inj dX hpd dY hqd (List.tail_eq_of_cons_eq e3)
          exact ⟨e4, by rw [e5, e2]⟩
set_option maxRecDepth 100000 in
/-- two ways to one root that part have a clash -/
theorem climb_must (x : Int) (bs : List Bool) (ps qs : List (List Int)) (X Y : List Int) (hp : ps.length = bs.length) (hq : qs.length = bs.length) (dp : Dgl ps) (dq : Dgl qs) (dX : Dg X) (dY : Dg Y) (h : upL x bs ps X = upL x bs qs Y) (hne : ¬ (X = Y ∧ ps = qs)) : ∃ A B, climbL x bs ps qs X Y = some (A, B) := by
  cases hc : climbL x bs ps qs X Y with
  | none => exact absurd (climb_none x bs ps qs X Y hp hq dp dq dX dY hc h) hne
  | some r => exact ⟨r.1, r.2, rfl⟩
set_option maxRecDepth 100000 in
/-- the clash's texts are bytes -/
theorem climb_byt (x : Int) : ∀ (bs : List Bool) (ps qs : List (List Int)) (X Y A B : List Int), Dgl ps → Dgl qs → Dg X → Dg Y → climbL x bs ps qs X Y = some (A, B) → (Byt A ∧ A.length = 65) ∧ (Byt B ∧ B.length = 65) := by
  intro bs
  induction bs with
  | nil => intro ps qs X Y A B _ _ _ _ h; rw [climb_end] at h; cases h
  | cons b bs ih =>
    intro ps qs X Y A B dp dq dX dY h
    cases ps with
    | nil => cases h
    | cons p ps =>
      cases qs with
      | nil => cases h
      | cons q qs =>
        have hpd := dp p (by simp)
        have hqd := dq q (by simp)
        cases hc : clashB (1 :: kids b X p) (1 :: kids b Y q) x with
        | true =>
          rw [climb_yes x b bs p q ps qs X Y hc] at h; cases h
          exact ⟨⟨(kids_byt dX hpd).cons (by decide), by rw [List.length_cons, kids_len dX hpd]⟩, ⟨(kids_byt dY hqd).cons (by decide), by rw [List.length_cons, kids_len dY hqd]⟩⟩
        | false =>
          rw [climb_no x b bs p q ps qs X Y hc] at h
          exact ih _ _ _ _ _ _ (fun d hd => dp d (by simp [hd])) (fun d hd => dq d (by simp [hd])) (cutL_dg (sum_byt _) x) (cutL_dg (sum_byt _) x) h

/-- whether a path shows another leaf -/
def mustP (T : List (List Int)) (i : Int) (leaf : List Int) (P : List (List Int)) (x : Int) : Bool :=
  decide (0 ≤ i ∧ i < (T.length : Int) ∧ T.getD i.toNat [] ≠ leaf) && chkP (rootL (leavesL T x) x) (T.length : Int) i (leafL leaf x) P x
set_option maxRecDepth 100000 in
/-- the clash that a path has: that of the leaves, or one of the ways -/
theorem path_must (T : List (List Int)) (i : Nat) (leaf : List Int) (P : List (List Int)) (x : Int) (hi : i < T.length) (hne : T.getD i [] ≠ leaf) (hP : Dgl P)
    (hc : chkP (rootL (leavesL T x) x) (T.length : Int) (i : Int) (leafL leaf x) P x = true) (hno : clashB (0 :: T.getD i []) (0 :: leaf) x = false) :
    P.length = (stepsL T.length i).length ∧ (pathL (leavesL T x) i x).length = (stepsL T.length i).length ∧ ∃ A B, climbL x (stepsL T.length i).reverse (pathL (leavesL T x) i x) P (leafL (T.getD i []) x) (leafL leaf x) = some (A, B) := by
  have hl := leavesL_len T x
  have hi' : i < (leavesL T x).length := by rw [hl]; exact hi
  obtain ⟨e1, e2⟩ := path_up _ (leavesL T x) i x (Nat.le_refl _) hi'
  rw [hl] at e1 e2
  rw [leavesL_getD T x i hi] at e2
  unfold chkP at hc
  rw [show ((T.length : Int)).toNat = T.length from by omega, show ((i : Int)).toNat = i from by omega] at hc
  simp only [Bool.and_eq_true, decide_eq_true_eq] at hc
  obtain ⟨_, c1, c2⟩ := hc
  refine ⟨c1.symm, e1.symm, climb_must x _ _ _ _ _ (by rw [List.length_reverse]; exact e1.symm) (by rw [List.length_reverse]; exact c1.symm) (pathL_dg _ _ i x (Nat.le_refl _) (leavesL_dg T x)) hP (leafL_dg _ x) (leafL_dg _ x) (by rw [e2, c2]) ?_⟩
  rintro ⟨h, _⟩
  have : clashB (0 :: T.getD i []) (0 :: leaf) x = true := (clashB_iff _ _ x).2 ⟨fun h => hne (List.tail_eq_of_cons_eq h), h⟩
  rw [this] at hno; cases hno

/-- whether a growth shows another beginning -/
def mustG (T : List (List Int)) (m : Int) (old : List Int) (P : List (List Int)) (x : Int) : Bool :=
  decide (1 ≤ m ∧ m ≤ (T.length : Int)) && (decide (old ≠ rootL ((leavesL T x).take m.toNat) x) && chkG old m (rootL (leavesL T x) x) (T.length : Int) P x)
set_option maxRecDepth 100000 in
theorem gup_snd (x : Int) : ∀ (rs : List Bool) (ps : List (List Int)) (d : List Int × List Int), (gup x rs ps d).2 = upL x rs ps d.2 := by
  intro rs
  induction rs with
  | nil => intro ps d; rw [gup_nil, upL_nil]
  | cons c r ih =>
    intro ps d
    cases ps with
    | nil => rfl
    | cons q qs =>
      show (gup x r qs _).2 = upL x r qs _
      rw [ih]
      cases c <;> rfl
set_option maxRecDepth 100000 in
/-- the way to a beginning's end is the way to its last place, not to its end -/
theorem gsteps_pre (k : Nat) : ∀ n m, n ≤ k → 1 ≤ m → m ≤ n → gstepsL n m = (stepsL n (m - 1)).take (gstepsL n m).length := by
  induction k with
  | zero => intro n m h h1 h2; omega
  | succ k ih =>
    intro n m h h1 h2
    by_cases hm : m = n
    · subst hm; rw [gsteps_end (Nat.le_refl _)]; rfl
    · have hp := splitN_pos (n := n) (by omega)
      have hlt := splitN_lt (n := n) (by omega)
      by_cases hi : m ≤ splitN n
      · rw [gsteps_left h1 (by omega) hi, stepsL_left (by omega) (show m - 1 < splitN n by omega), List.length_cons, List.take_succ_cons]
        have := ih (splitN n) m (by omega) h1 hi
        exact congrArg _ this
      · rw [gsteps_right (by omega) hi, stepsL_right (by omega) (show ¬ m - 1 < splitN n by omega), List.length_cons, List.take_succ_cons]
        have := ih (n - splitN n) (m - splitN n) (by omega) (by omega) (by omega)
        rw [show m - 1 - splitN n = m - splitN n - 1 from by omega]
        exact congrArg _ this
set_option maxRecDepth 100000 in
/-- a piece of a longer list's tree is as long as a power of two -/
theorem gwh_pow (k : Nat) : ∀ n m, n ≤ k → 1 ≤ m → m < n → (gwh true (gstepsL n m) = true ↔ ∃ j, m = 2 ^ j) := by
  induction k with
  | zero => intro n m h h1 h2; omega
  | succ k ih =>
    intro n m h h1 h2
    have hp := splitN_pos (n := n) (by omega)
    have hlt := splitN_lt (n := n) (by omega)
    obtain ⟨j, hj⟩ := splitN_pow (n := n) (by omega)
    by_cases hi : m ≤ splitN n
    · rw [gsteps_left h1 h2 hi, gwh_false]
      by_cases he : m = splitN n
      · rw [gsteps_end (by omega)]
        exact ⟨fun _ => ⟨j, by rw [he, hj]⟩, fun _ => rfl⟩
      · exact ih (splitN n) m (by omega) h1 (by omega)
    · rw [gsteps_right h2 hi, gwh_true]
      refine ⟨fun h => by (cases h), ?_⟩
      rintro ⟨i, rfl⟩
      have hh := splitN_half (n := n) (by omega)
      rw [hj] at hi hh
      have h3 : j < i := (Nat.pow_lt_pow_iff_right (by decide : 1 < 2)).1 (by omega)
      have h4 : 2 ^ (j + 1) ≤ 2 ^ i := Nat.pow_le_pow_right (by decide) h3
      rw [Nat.pow_succ] at h4
      omega
set_option maxRecDepth 100000 in
/-- the clash that a growth has -/
theorem grow_must (T : List (List Int)) (m : Nat) (old : List Int) (P : List (List Int)) (x : Int) (h1 : 1 ≤ m) (hm : m ≤ T.length) (hP : Dgl P) (hod : Dg old) (hne : old ≠ rootL ((leavesL T x).take m) x)
    (hc : chkG old (m : Int) (rootL (leavesL T x) x) (T.length : Int) P x = true) :
    m < T.length ∧ P.length = need true (gstepsL T.length m) ∧ (growL (leavesL T x) m true x).length = need true (gstepsL T.length m) ∧
    (gwh true (gstepsL T.length m) = true → ∃ A B, climbL x (gstepsL T.length m).reverse (growL (leavesL T x) m true x) P (rootL ((leavesL T x).take m) x) old = some (A, B)) ∧
    (gwh true (gstepsL T.length m) = false → ∃ A B, climbL x (gstepsL T.length m).reverse ((growL (leavesL T x) m true x).drop 1) (P.drop 1) ((growL (leavesL T x) m true x).getD 0 []) (P.getD 0 []) = some (A, B)) := by
  have hl := leavesL_len T x
  obtain ⟨e1, e2⟩ := grow_up _ (leavesL T x) m true x (rootL ((leavesL T x).take m) x) (Nat.le_refl _) h1 (by rw [hl]; exact hm) (fun _ => rfl)
  rw [hl] at e1 e2
  unfold chkG at hc
  rw [show ((T.length : Int)).toNat = T.length from by omega, show ((m : Int)).toNat = m from by omega] at hc
  simp only [Bool.and_eq_true, decide_eq_true_eq] at hc
  obtain ⟨_, c1, c2, c3⟩ := hc
  have hGd := growL_dg _ (leavesL T x) m true x (Nat.le_refl _) h1 (by rw [hl]; exact hm) (leavesL_dg T x)
  have hRd := rootL_dg ((leavesL T x).take m) x ((leavesL_dg T x).take m)
  have hlt : m < T.length := by
    refine Classical.byContradiction fun h => hne ?_
    obtain rfl : m = T.length := by omega
    rw [gsteps_end (Nat.le_refl _)] at c2 c3
    have e : ∀ p o, (gres x true [] p o).2 = o := fun p o => by unfold gres gwh; simp [gup_nil]
    rw [e] at c3
    rw [c3, ← hl, List.take_length]
  refine ⟨hlt, c1, e1, fun hg => ?_, fun hg => ?_⟩
  · unfold gres at c2 c3 e2
    rw [if_pos hg] at c2 c3 e2
    unfold need at c1 e1
    rw [if_pos hg] at c1 e1
    have e3 := congrArg Prod.snd e2
    rw [gup_snd] at c3 e3
    exact climb_must x _ _ _ _ _ (by rw [List.length_reverse]; exact e1) (by rw [List.length_reverse]; exact c1) hGd hP hRd hod (by rw [e3, c3]) (fun h => hne h.1.symm)
  · have hPl : 1 ≤ P.length := by unfold need at c1; rw [hg] at c1; simp at c1; omega
    have hGl : 1 ≤ (growL (leavesL T x) m true x).length := by unfold need at e1; rw [hg] at e1; simp at e1; omega
    have hcons : ∀ L : List (List Int), 1 ≤ L.length → L = L.getD 0 [] :: L.drop 1 := by
      intro L hL
      cases L with
      | nil => simp at hL
      | cons a l => rfl
    have e2' := e2
    unfold gres at c3 e2
    rw [hg] at c3 e2
    simp only [Bool.false_eq_true, if_false] at c3 e2
    unfold need at c1 e1
    rw [hg] at c1 e1
    simp only [Bool.false_eq_true, if_false] at c1 e1
    have e3 := congrArg Prod.snd e2
    rw [gup_snd] at c3 e3
    refine climb_must x _ _ _ _ _ (by rw [List.length_reverse, List.length_drop, e1]; rfl) (by rw [List.length_reverse, List.length_drop, c1]; rfl) (hGd.drop 1) (hP.drop 1) (hGd.getD 0 (by omega)) (hP.getD 0 (by omega)) (by rw [e3, c3]) ?_
    rintro ⟨h, h'⟩
    have hE : growL (leavesL T x) m true x = P := by rw [hcons _ hGl, hcons _ hPl, h, h']
    rw [hE] at e2'
    unfold gres at e2' c2
    rw [hg] at e2' c2
    simp only [Bool.false_eq_true, if_false] at e2' c2
    rw [e2'] at c2
    exact hne c2.symm
end Go.Proofs.YtbednfacipphhaaDoor
