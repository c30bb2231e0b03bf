/- Letters that are turned, one by one. No walk. -/
import Derived.Test.YtdameoejigpnhaaGreatDoorWrk
import Derived.Test.YtdameoejigpnhaaGreatDoorWrc
import Derived.Deep.CutRange
import Derived.Deep.CutBlock
import Derived.Laws.OwnMore
namespace Go.Proofs.YtdameoejigpnhaaGreatDoor
open Go.RowKit
set_option linter.unusedVariables false

def letA (c : Int) : Bool := (decide (97 ≤ c) && decide (c ≤ 122)) || (decide (65 ≤ c) && decide (c ≤ 90))
def swC (c : Int) : Int := if 97 ≤ c then c - 32 else c + 32
set_option maxRecDepth 100000 in
theorem xor_let (c : Int) (h : letA c = true) : bits .xor .u8 c 32 = swC c := by
  unfold letA at h
  simp at h
  obtain ⟨n, rfl⟩ : ∃ n : Nat, c = (n : Int) := ⟨c.toNat, by omega⟩
  have hn : n < 128 := by omega
  have hl : letA (n : Int) = true := by unfold letA; simp; omega
  clear h
  revert hl
  revert n
  decide +kernel
set_option maxRecDepth 100000 in
theorem sw_low (c : Int) (h : letA c = true) : lowB c = lowB (swC c) ∧ c ≠ 58 ∧ swC c ≠ 58 ∧ swC c ≠ 13 ∧ swC c ≠ 10 ∧ c ≠ 13 ∧ c ≠ 10 ∧ 0 ≤ swC c ∧ swC c ≤ 255 := by
  unfold letA at h
  simp at h
  unfold lowB swC
  repeat' split
  all_goals omega
structure CsI (b cc : List Int) (k lines : Nat) (nm : Bool) : Prop where
  len : cc.length = b.length
  byt : Byt cc
  nb : ∀ j, j < k → ¬ brk b j
  eq : ∀ i, i < b.length → cc.getD i 0 = b.getD i 0 ∨ (i < k ∧ (∀ j, j ≤ i → ¬ brk b j) ∧ nmF b i = true ∧ letA (b.getD i 0) = true ∧ cc.getD i 0 = swC (b.getD i 0))
  nf : nm = nmF b k
  ln : lines = 0 → nmF b k = false
set_option maxRecDepth 100000 in
theorem CsI.sig {b cc : List Int} {k lines : Nat} {nm : Bool} (h : CsI b cc k lines nm) (i : Nat) (v : Int) (hv : v = 13 ∨ v = 10 ∨ v = 58) (hi : i < b.length) : (cc.getD i 0 = v ↔ b.getD i 0 = v) := by
  rcases h.eq i hi with e | ⟨_, _, _, h1, h2⟩
  · rw [e]
  · rw [h2]
    have := sw_low _ h1
    constructor <;> intro e <;> omega
set_option maxRecDepth 100000 in
theorem CsI.cas {b cc : List Int} {k lines : Nat} {nm : Bool} (h : CsI b cc k lines nm) : Cas b cc := ⟨h.len, fun i hi => by
  rcases h.eq i hi with e | ⟨_, h0, h3, h1, h2⟩
  · exact .inl e
  · have := sw_low _ h1
    exact .inr ⟨h0, h3, by rw [h2]; exact this.1, this.2.1, by rw [h2]; exact this.2.2.1⟩⟩
set_option maxRecDepth 100000 in
theorem CsI.new {b : List Int} (hb : Byt b) : CsI b b 0 0 false := ⟨rfl, hb, fun j hj => by omega, fun i _ => .inl rfl, rfl, fun _ => rfl⟩
set_option maxRecDepth 100000 in
theorem CsI.at {b cc : List Int} {k lines : Nat} {nm : Bool} (h : CsI b cc k lines nm) (i : Nat) (hi : k ≤ i) : cc.getD i 0 = b.getD i 0 := by
  by_cases hl : i < b.length
  · rcases h.eq i hl with e | ⟨hk, _⟩
    · exact e
    · omega
  · rw [List.getD_eq_getElem?_getD, List.getD_eq_getElem?_getD, List.getElem?_eq_none (by rw [h.len]; omega), List.getElem?_eq_none (by omega)]
set_option maxRecDepth 100000 in
theorem CsI.next {b cc : List Int} {k lines lines' : Nat} {nm nm' : Bool} (h : CsI b cc k lines nm) (hnb : ¬ brk b k) (h1 : nm' = nmF b (k + 1)) (h2 : lines' = 0 → nmF b (k + 1) = false) : CsI b cc (k + 1) lines' nm' :=
  ⟨h.len, h.byt, fun j hj => by
    by_cases e : j = k
    · rw [e]; exact hnb
    · exact h.nb j (by omega), fun i hi => by
    rcases h.eq i hi with e | ⟨a, r⟩
    · exact .inl e
    · exact .inr ⟨by omega, r⟩, h1, h2⟩
set_option maxRecDepth 100000 in
theorem CsI.lf {b cc : List Int} {k lines : Nat} {nm : Bool} (h : CsI b cc k lines nm) (hnb : ¬ brk b k) (hc : b.getD k 0 = 10) : CsI b cc (k + 1) (lines + 1) true := h.next hnb (by show true = if _ then _ else _; rw [if_pos hc]) (fun h => by omega)
set_option maxRecDepth 100000 in
theorem CsI.col {b cc : List Int} {k lines : Nat} {nm : Bool} (h : CsI b cc k lines nm) (hnb : ¬ brk b k) (hc : ¬ b.getD k 0 = 10) (hc2 : b.getD k 0 = 58) : CsI b cc (k + 1) lines false := h.next hnb (by show false = if _ then _ else if _ then _ else _; rw [if_neg hc, if_pos hc2]) (fun _ => by show (if _ then _ else if _ then _ else _) = _; rw [if_neg hc, if_pos hc2])
set_option maxRecDepth 100000 in
theorem CsI.oth {b cc : List Int} {k lines : Nat} {nm : Bool} (h : CsI b cc k lines nm) (hnb : ¬ brk b k) (hc : ¬ b.getD k 0 = 10) (hc2 : ¬ b.getD k 0 = 58) : CsI b cc (k + 1) lines nm := h.next hnb (by show nm = if _ then _ else if _ then _ else _; rw [if_neg hc, if_neg hc2]; exact h.nf) (fun h0 => by show (if _ then _ else if _ then _ else _) = _; rw [if_neg hc, if_neg hc2]; exact h.ln h0)
set_option maxRecDepth 100000 in
theorem CsI.turn {b cc : List Int} {k lines : Nat} (h : CsI b cc k lines true) (hk : k < b.length) (hnb : ¬ brk b k) (hl : letA (b.getD k 0) = true) : CsI b (cc.set k (swC (b.getD k 0))) (k + 1) lines true := by
  have hs := sw_low _ hl
  have h0 := h.oth hnb hs.2.2.2.2.2.2.1 hs.2.1
  have hg : ∀ i, (cc.set k (swC (b.getD k 0))).getD i 0 = if i = k then swC (b.getD k 0) else cc.getD i 0 := fun i => by
    rw [List.getD_eq_getElem?_getD, List.getElem?_set]
    by_cases e : k = i
    · subst e; rw [if_pos rfl, if_pos (by rw [h.len]; exact hk), if_pos rfl]; rfl
    · rw [if_neg e, if_neg (fun e2 => e e2.symm), ← List.getD_eq_getElem?_getD]
  refine ⟨by rw [List.length_set]; exact h0.len, fun c hc => ?_, h0.nb, fun i hi => ?_, h0.nf, h0.ln⟩
  · rcases List.mem_or_eq_of_mem_set hc with hc | rfl
    · exact h0.byt c hc
    · exact ⟨hs.2.2.2.2.2.2.2.1, hs.2.2.2.2.2.2.2.2⟩
  · rw [hg i]
    by_cases e : i = k
    · subst e
      rw [if_pos rfl]
      refine .inr ⟨by omega, fun j hj => ?_, h.nf.symm, hl, rfl⟩
      by_cases e2 : j = i
      · rw [e2]; exact hnb
      · exact h.nb j (by omega)
    · rw [if_neg e]; exact h0.eq i hi
set_option maxRecDepth 100000 in
theorem bv_set (l : List Int) (k : Nat) (c : Int) : bv (l.set k c) = (bv l).set k (.int .u8 c) := by unfold bv; rw [List.map_set]
set_option maxRecDepth 100000 in
/-- where the law looks for the empty line -/
theorem CsI.brk {b cc : List Int} {k lines : Nat} {nm : Bool} (h : CsI b cc k lines nm) : (2 ≤ k ∧ k + 1 < b.length ∧ cc.getD (k - 2) 0 = 13 ∧ cc.getD (k - 1) 0 = 10 ∧ cc.getD k 0 = 13 ∧ cc.getD (k + 1) 0 = 10) ↔ Go.Proofs.YtdameoejigpnhaaGreatDoor.brk b k := by
  unfold Go.Proofs.YtdameoejigpnhaaGreatDoor.brk
  constructor
  · rintro ⟨h1, h2, h3, h4, h5, h6⟩
    exact ⟨h1, h2, (h.sig _ _ (.inl rfl) (by omega)).1 h3, (h.sig _ _ (.inr (.inl rfl)) (by omega)).1 h4, (h.sig _ _ (.inl rfl) (by omega)).1 h5, (h.sig _ _ (.inr (.inl rfl)) (by omega)).1 h6⟩
  · rintro ⟨h1, h2, h3, h4, h5, h6⟩
    exact ⟨h1, h2, (h.sig _ _ (.inl rfl) (by omega)).2 h3, (h.sig _ _ (.inr (.inl rfl)) (by omega)).2 h4, (h.sig _ _ (.inl rfl) (by omega)).2 h5, (h.sig _ _ (.inr (.inl rfl)) (by omega)).2 h6⟩
end Go.Proofs.YtdameoejigpnhaaGreatDoor
