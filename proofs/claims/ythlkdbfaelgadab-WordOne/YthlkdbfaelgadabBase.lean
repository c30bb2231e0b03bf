/- What bytes in memory are to these texts: a slice that reads as a list of numbers from 0 to 255; and small facts on it. -/
import Derived.Test.YthlkdbfaelgadabRows
import Derived.WalkKit
import Derived.WalkSpells
import Derived.WalkLawsBesides
import Derived.Deep.QuietTactic
import Derived.BigQuiet
import Derived.Laws.AppendOwnNone
import Derived.OpenShut
import Derived.Deep.RegionWith
import Derived.Deep.RegionHeld3
namespace Go.Proofs.Ythlkdbfaelgadab
open Go.RowKit
set_option linter.unusedVariables false

theorem Try.info5 : (Try.prog.info? 5).map (fun i => (i.zero, i.size, i.bytes)) = some (some (.int .u8 0), 1, 1) := by kernel_rfl

/-- each is a byte -/
def Byt (l : List Int) : Prop := ∀ c ∈ l, 0 ≤ c ∧ c ≤ 255
/-- as cells -/
def bv (l : List Int) : List Value := l.map (Value.int .u8)
theorem bv_length (l : List Int) : (bv l).length = l.length := by simp [bv]
theorem bv_append (l m : List Int) : bv (l ++ m) = bv l ++ bv m := by simp [bv]
theorem bv_one (l : List Int) : ∀ u ∈ bv l, u.oneCell' = true := ints_oneCell _ l
theorem Byt.nil : Byt [] := by intro c h; cases h
theorem Byt.append {l m : List Int} (h : Byt l) (k : Byt m) : Byt (l ++ m) := by
  intro c hc; rcases List.mem_append.1 hc with h' | h'
  · exact h c h'
  · exact k c h'
theorem Byt.cons {c : Int} {m : List Int} (h : 0 ≤ c ∧ c ≤ 255) (k : Byt m) : Byt (c :: m) := by
  intro d hd; rcases List.mem_cons.1 hd with h' | h'
  · rw [h']; exact h
  · exact k d h'
theorem Byt.take {l : List Int} (h : Byt l) (n : Nat) : Byt (l.take n) := fun c hc => h c (List.mem_of_mem_take hc)
theorem Byt.getD {l : List Int} (h : Byt l) (i : Nat) : 0 ≤ l.getD i 0 ∧ l.getD i 0 ≤ 255 := by
  by_cases hi : i < l.length
  · rw [List.getD_eq_getElem?_getD, List.getElem?_eq_getElem hi]; exact h _ (List.getElem_mem hi)
  · rw [List.getD_eq_getElem?_getD, List.getElem?_eq_none (by omega)]; decide

/-- the slice value v reads as the bytes l in the world w -/
structure Bts (w : World) (ao : Option Addr) (len cap : Nat) (l : List Int) : Prop where
  len_eq : l.length = len
  byt : Byt l
  le_cap : len ≤ cap
  cap_le : cap ≤ maxLen
  nil : ao = none → cap = 0
  spot : 0 < len → ∃ b off, ao = some ⟨b, off, none⟩ ∧ b < w.heap.size ∧ ∀ i, i < len → w.cell? ⟨b, off + i, none⟩ = some (.int .u8 (l.getD i 0))

theorem Bts.below {w w' : World} {ao : Option Addr} {len cap : Nat} {l : List Int} (h : Bts w ao len cap l) (hb : Below w.heap.size w w') : Bts w' ao len cap l :=
  ⟨h.len_eq, h.byt, h.le_cap, h.cap_le, h.nil, fun hp => by
    obtain ⟨b, off, e, hlt, hc⟩ := h.spot hp
    exact ⟨b, off, e, Nat.lt_of_lt_of_le hlt hb.size, fun i hi => (hb.cell hlt).trans (hc i hi)⟩⟩
theorem Bts.drewN {w : World} {ao : Option Addr} {len cap : Nat} {l : List Int} (h : Bts w ao len cap l) (n : Nat) : Bts (w.drewN n) ao len cap l :=
  ⟨h.len_eq, h.byt, h.le_cap, h.cap_le, h.nil, h.spot⟩
theorem below_drewN {B : Nat} {a w : World} (h : Below B a w) (n : Nat) : Below B a (w.drewN n) := ⟨h.os, h.tape, h.output, h.size, h.block⟩

theorem bstep {a b c : World} (h : Below a.heap.size a b) (k : Below b.heap.size b c) : Below a.heap.size a c := h.trans (k.mono h.size)
theorem Bts.below' {w w1 w' : World} {ao : Option Addr} {len cap : Nat} {l : List Int} (h : Bts w ao len cap l) (hb : Below w1.heap.size w1 w') (hs : w1.heap = w.heap) : Bts w' ao len cap l :=
  ⟨h.len_eq, h.byt, h.le_cap, h.cap_le, h.nil, fun hp => by
    obtain ⟨b, off, e, hlt, hc⟩ := h.spot hp
    have hlt' : b < w1.heap.size := by rw [hs]; exact hlt
    refine ⟨b, off, e, Nat.lt_of_lt_of_le hlt' hb.size, fun i hi => (hb.cell hlt').trans ?_⟩
    rw [← hc i hi]; exact World.cell?_of_block (by rw [hs])⟩
theorem Bts.list {w : World} {ao : Option Addr} {len cap : Nat} {l l' : List Int} (h : Bts w ao len cap l) (e : l = l') : Bts w ao len cap l' := by rw [← e]; exact h
theorem drew_close (w : World) (q r : Nat) : ∃ s, (w.drewN q).drewN r = w.drewN s := ⟨q + r, by simp⟩
theorem ret_bool {a b : Bool} (h : a = b) : Ending.returned (.bool a) = .returned (.bool b) := by rw [h]
theorem ret_int {k : IntKind} {a b : Int} (h : a = b) : Ending.returned (.int k a) = .returned (.int k b) := by rw [h]

/-- a slice of bytes that came in (the shell's own words for it) reads as its elements -/
theorem Bts.of_row {w : World} {a : Option Addr} {len cap : Nat} {zs : List Int}
    (h : (a = none ∧ len = 0 ∧ cap = 0 ∧ zs = []) ∨ ∃ x, a = some x ∧ len ≤ cap ∧ cap ≤ maxLen ∧ zs.length = cap ∧ (∀ i, i < zs.length → w.cell? (x.add i) = some (.int .u8 (zs.getD i 0))) ∧ ∀ n ∈ zs, (Lit.int .u8 n).wf = true) :
    Bts w a len cap (zs.take len) := by
  rcases h with ⟨rfl, rfl, rfl, rfl⟩ | ⟨x, rfl, hl, hm, hz, hcell, hwz⟩
  · exact ⟨rfl, by intro c hc; simp at hc, Nat.le_refl _, Nat.zero_le _, fun _ => rfl, fun hp => absurd hp (Nat.lt_irrefl _)⟩
  · refine ⟨by rw [List.length_take]; omega, fun c hc => bounds_u8 (hwz c (List.mem_of_mem_take hc)), hl, hm, (fun hh => by cases hh), fun hp => ?_⟩
    obtain ⟨b, off, sp⟩ := x
    have h0 := hcell 0 (by omega)
    have hsp : sp = none := by simpa [Addr.add] using World.cell?_spot h0
    subst hsp
    refine ⟨b, off, rfl, ?_, fun i hi => ?_⟩
    · have := World.block_lt_of_cell? w _ h0; simpa [Addr.add] using this
    · have h1 := hcell i (by omega)
      rw [Addr.add_lit] at h1
      rw [h1, List.getD_eq_getElem?_getD, List.getD_eq_getElem?_getD, List.getElem?_take, if_pos hi]

/-- what is owned reads as the list -/
theorem Bts.of_owns {w : World} {base n : Nat} {v : Value} {l : List Int} (h : w.ownsRow base 5 1 v n (bv l)) (hl : Byt l) :
    ∃ ao cap, v = .slice ao n cap ∧ Bts w ao n cap l := by
  have hlen : l.length = n := by have := h.1; rw [bv_length] at this; omega
  rcases h.2 with ⟨rfl, hn⟩ | ⟨g, cap, cur, rfl, hb, hg, hnc, hcm, hcs, ht⟩
  · subst hn
    exact ⟨none, 0, rfl, hlen, hl, Nat.le_refl _, Nat.zero_le _, fun _ => rfl, fun hp => absurd hp (Nat.lt_irrefl _)⟩
  · refine ⟨some ⟨g, 0, none⟩, cap, rfl, hlen, hl, hnc, hcm, (fun hh => by cases hh), fun _ => ⟨g, 0, rfl, (Array.getElem?_eq_some_iff.1 hg).1, fun i hi => ?_⟩⟩
    have hc := h.cellAt i (by omega)
    rw [Nat.zero_add, hc, List.getD_eq_getElem?_getD, List.getElem?_eq_getElem (by omega : i < l.length)]
    simp [bv, List.getElem?_eq_getElem (by omega : i < l.length)]

theorem owns_cell {w : World} {base : Nat} {e : TypeId} {g n cap : Nat} {xs : List Value} (h : w.ownsRow base e 1 (.slice (some ⟨g, 0, none⟩) n cap) n xs) (j : Nat) (hj : j < n) :
    ∃ v, w.cell? ⟨g, j, none⟩ = some v := by
  rw [h.cellAt j (by omega)]
  exact ⟨_, List.getElem?_eq_getElem (by rw [h.1]; omega)⟩

theorem owns_form {w : World} {base : Nat} {e : TypeId} {size n : Nat} {v : Value} {xs : List Value} (h : w.ownsRow base e size v n xs) (hn : 1 ≤ n) : ∃ g cap, v = .slice (some ⟨g, 0, none⟩) n cap ∧ base ≤ g ∧ g < w.heap.size := by
  rcases h.2 with ⟨_, h0⟩ | ⟨g, cap, cur, hv, hg, hh, _⟩
  · omega
  · exact ⟨g, cap, hv, hg, (Array.getElem?_eq_some_iff.1 hh).1⟩
/-- ownership goes up to a lower base -/
theorem owns_base {w : World} {base base' : Nat} {e : TypeId} {size n : Nat} {v : Value} {xs : List Value} (h : w.ownsRow base e size v n xs) (hb : base' ≤ base) : w.ownsRow base' e size v n xs := by
  refine ⟨h.1, ?_⟩
  rcases h.2 with h2 | ⟨g, cap, cur, hv, hg, r⟩
  · exact .inl h2
  · exact .inr ⟨g, cap, cur, hv, Nat.le_trans hb hg, r⟩
/-- what is owned stays while nothing below the heap's size turns -/
theorem owns_below {w w' : World} {base : Nat} {e : TypeId} {size n : Nat} {v : Value} {xs : List Value} (h : w.ownsRow base e size v n xs) (hb : Below w.heap.size w w') : w'.ownsRow base e size v n xs := by
  refine ⟨h.1, ?_⟩
  rcases h.2 with h2 | ⟨g, cap, cur, hv, hg, hh, r⟩
  · exact .inl h2
  · exact .inr ⟨g, cap, cur, hv, hg, by rw [hb.block g (Array.getElem?_eq_some_iff.1 hh).1]; exact hh, r⟩
theorem owns_drewN {w : World} {base : Nat} {e : TypeId} {size n : Nat} {v : Value} {xs : List Value} (h : w.ownsRow base e size v n xs) (q : Nat) : (w.drewN q).ownsRow base e size v n xs := h

theorem take_succ_getD (l : List Int) (k : Nat) (h : k < l.length) : l.take (k + 1) = l.take k ++ [l.getD k 0] := by
  rw [List.take_succ_eq_append_getElem h, List.getD_eq_getElem?_getD, List.getElem?_eq_getElem h]; rfl

end Go.Proofs.Ythlkdbfaelgadab
