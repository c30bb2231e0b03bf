/- A token of which one byte is another one. -/
import Derived.Test.YtdoedkgidcoibaaDoorTokFacts
import Derived.Test.YtdoedkgidcoibaaDoorPasses
namespace Go.Proofs.YtdoedkgidcoibaaDoor
open Go.RowKit
set_option linter.unusedVariables false

theorem sb_ext {s t : ByteArray} (hz : s.size = t.size) (h : ∀ j, j < s.size → sb s j = sb t j) : s = t := by
  rw [← strOf_all s, ← strOf_all t, ← hz]
  congr 1
  apply List.map_congr_left
  intro j hj
  exact h j (List.mem_range.1 hj)
theorem strL_sb (s : ByteArray) (j : Nat) (hj : j < s.size) : (strL s).getD j 0 = sb s j := strL_getD s j hj
theorem set_byt {l : List Int} (h : Byt l) (i : Nat) {c : Int} (hc : 0 ≤ c ∧ c ≤ 255) : Byt (l.set i c) := by
  intro x hx
  rcases List.mem_or_eq_of_mem_set hx with h1 | h1
  · exact h x h1
  · rw [h1]; exact hc
theorem set_getD (l : List Int) (i j : Nat) (c : Int) (hj : j < l.length) : (l.set i c).getD j 0 = if i = j then c else l.getD j 0 := by
  rw [List.getD_eq_getElem?_getD, List.getD_eq_getElem?_getD, List.getElem?_set]
  by_cases e : i = j
  · rw [if_pos e, if_pos e, if_pos (by omega)]; rfl
  · rw [if_neg e, if_neg e]
/-- the text with another byte at one place -/
def turnB (s : ByteArray) (i : Nat) (c : Int) : ByteArray := strOf ((strL s).set i c)
theorem turnB_size (s : ByteArray) (i : Nat) (c : Int) : (turnB s i c).size = s.size := by unfold turnB; rw [strOf_size, List.length_set, strL_len]
theorem turnB_sb {s : ByteArray} {i : Nat} {c : Int} (hc : 0 ≤ c ∧ c ≤ 255) (j : Nat) (hj : j < s.size) : sb (turnB s i c) j = if i = j then c else sb s j := by
  unfold turnB
  rw [sb_strOf (set_byt (strL_byt s) i hc) j (by rw [List.length_set, strL_len]; exact hj), set_getD _ _ _ _ (by rw [strL_len]; exact hj), strL_sb s j hj]
theorem turned_low {k : List Int} {n m : ByteArray} {v u : Int} {i : Nat} {c : Int} (hok : mOk n v = true) (hok2 : mOk m u = true) (hi : i < (tokB k n v).size) (hne : ¬ sb (tokB k n v) i = c) (hc : 0 ≤ c ∧ c ≤ 255)
    (ht : turnB (tokB k n v) i c = tokB k m u) : i + 65 < (tokB k n v).size := by
  apply Classical.byContradiction
  intro hbad
  have z1 : (tokB k n v).size = (claimB n v).size + 65 := form_size (mkS_len _ _ _)
  have z2 : (tokB k m u).size = (claimB m u).size + 65 := form_size (mkS_len _ _ _)
  have z3 := turnB_size (tokB k n v) i c
  rw [ht] at z3
  have hcl : claimB m u = claimB n v := by
    apply sb_ext (by omega)
    intro j hj
    have h1 : sb (tokB k m u) j = sb (claimB m u) j := by unfold tokB formB; rw [app_assoc, sb_left hj]
    have h2 : sb (tokB k n v) j = sb (claimB n v) j := by unfold tokB formB; rw [app_assoc, sb_left (by omega)]
    have h3 := turnB_sb (s := tokB k n v) (i := i) hc j (by omega)
    rw [if_neg (by omega), ht, h1, h2] at h3
    exact h3
  obtain ⟨rfl, rfl⟩ := claim_inj (mOk_says hok2 k) (mOk_says hok k) hcl
  have h3 := turnB_sb (s := tokB k m u) (i := i) hc i hi
  rw [if_pos rfl, ht] at h3
  exact hne h3
theorem bytes_frozen (w : World) (e : TypeId) (s : ByteArray) (j : Nat) (hj : j < s.size) : (Lib.bytesWorld w e s).frozen? ⟨w.heap.size, j, none⟩ = false := by
  have hz : s.size ≤ (Lib.bytesCells w e s).size := by
    unfold Lib.bytesCells
    rw [Array.size_append, Array.size_map]
    exact Nat.le_add_right _ _
  simp [World.frozen?, Lib.bytesWorld_at_new]
  omega
/-- the bytes of a text, one of them written anew -/
theorem turned_bts (w : World) (s : ByteArray) (i : Nat) (c : Int) (hi : i < s.size) (hc : 0 ≤ c ∧ c ≤ 255) (hs : s.size ≤ maxLen) :
    Below w.heap.size w ((Lib.bytesWorld w 5 s).setCell ⟨w.heap.size, i, none⟩ (.int .u8 c)) ∧ Bts ((Lib.bytesWorld w 5 s).setCell ⟨w.heap.size, i, none⟩ (.int .u8 c)) (some ⟨w.heap.size, 0, none⟩) s.size (grownCap w s.size 0 5) ((strL s).set i c) := by
  have hb := bytes_low w 5 s
  have hB := bytes_bts w s hs
  have hlow := hb.setCell (p := ⟨w.heap.size, i, none⟩) (Nat.le_refl _) (.int .u8 c)
  refine ⟨hlow, by rw [List.length_set, strL_len], set_byt (strL_byt s) i hc, hB.le_cap, hB.cap_le, (fun hh => by cases hh), fun _ => ⟨w.heap.size, 0, rfl, ?_, fun j hj => ?_⟩⟩
  · have := Lib.bytesWorld_size w 5 s
    have h2 := ((Below.refl (Lib.bytesWorld w 5 s).heap.size (Lib.bytesWorld w 5 s)).setCell (p := ⟨(Lib.bytesWorld w 5 s).heap.size, i, none⟩) (Nat.le_refl _) (.int .u8 c)).size
    have h3 : ((Lib.bytesWorld w 5 s).setCell ⟨w.heap.size, i, none⟩ (.int .u8 c)).heap.size = (Lib.bytesWorld w 5 s).heap.size := by simp
    omega
  · have hcell := Lib.bytesWorld_cell w 5 s
    rw [Nat.zero_add, set_getD _ _ _ _ (by rw [strL_len]; exact hj)]
    by_cases e : i = j
    · subst e
      rw [if_pos rfl]
      exact World.cell?_setCell_same _ _ _ (hcell i hi)
    · have ho : ((Lib.bytesWorld w 5 s).setCell ⟨w.heap.size, i, none⟩ (.int .u8 c)).cell? ⟨w.heap.size, j, none⟩ = (Lib.bytesWorld w 5 s).cell? ⟨w.heap.size, j, none⟩ :=
        World.cell?_setCell_other _ _ _ _ (fun h => e (by injection h))
      rw [if_neg e, ho, hcell j hj, strL_getD s j hj]
/-- what stays in the law's last sentence -/
structure TU (B P L cap n0 cap0 : Nat) (a0 : Option Addr) (k l : List Int) (n : ByteArray) (v : Int) (w w' : World) : Prop where
  low : Below w.heap.size w w'
  lay : Lay w'
  key : Bts w' a0 n0 cap0 k
  row : Bts w' (some ⟨B, 0, none⟩) L cap l
  pass : PB P n v w'
def TUH (B P L cap n0 cap0 : Nat) (a0 : Option Addr) (k l : List Int) (n t : ByteArray) (v : Int) (w w' : World) : Prop :=
  w'.cell? ⟨P, 0, none⟩ = some (.string n) ∧ w'.cell? ⟨P, 1, none⟩ = some (.int .i64 v) ∧ (convert 22 9 (.slice (some ⟨B, 0, none⟩) L cap)).run Tryd.prog w' = .ok (.string t) w' ∧ TU B P L cap n0 cap0 a0 k l n v w w'
theorem TU.held {B P L cap n0 cap0 : Nat} {a0 : Option Addr} {k l : List Int} {n t : ByteArray} {v : Int} {w w' : World} (h : TU B P L cap n0 cap0 a0 k l n v w w') (ht : strOf l = t) : TUH B P L cap n0 cap0 a0 k l n t v w w' := by
  refine ⟨h.pass.at0, h.pass.at1, ?_, h⟩
  rw [← ht]; exact h.row.str
theorem TUH.step {B P L cap n0 cap0 : Nat} {a0 : Option Addr} {k l : List Int} {n t : ByteArray} {v : Int} {w w' w1 : World} (h : TUH B P L cap n0 cap0 a0 k l n t v w w') (ht : strOf l = t) (hb : Below w'.heap.size w' w1) : TUH B P L cap n0 cap0 a0 k l n t v w w1 := by
  obtain ⟨_, _, _, h⟩ := h
  exact TU.held ⟨bstep h.low hb, h.lay.below hb, h.key.below hb, h.row.below hb, h.pass.below hb⟩ ht
theorem tuh_key {B P L cap n0 cap0 : Nat} {a0 : Option Addr} {k l : List Int} {n : ByteArray} {v : Int} {w w' : World} {p q r : Prop} (h : p ∧ q ∧ r ∧ TU B P L cap n0 cap0 a0 k l n v w w') : Bts w' a0 n0 cap0 k := h.2.2.2.key
theorem tuh_lay {B P L cap n0 cap0 : Nat} {a0 : Option Addr} {k l : List Int} {n : ByteArray} {v : Int} {w w' : World} {p q r : Prop} (h : p ∧ q ∧ r ∧ TU B P L cap n0 cap0 a0 k l n v w w') : Lay w' := h.2.2.2.lay
theorem tuh_low {B P L cap n0 cap0 : Nat} {a0 : Option Addr} {k l : List Int} {n : ByteArray} {v : Int} {w w' : World} {p q r : Prop} (h : p ∧ q ∧ r ∧ TU B P L cap n0 cap0 a0 k l n v w w') : Below w.heap.size w w' := h.2.2.2.low
theorem turned_ways (k : List Int) (s : ByteArray) : (∃ E : Int, (E != 0) = true ∧ (E = 4 ∨ E = 7) ∧ opn k s (-1) = (⟨#[]⟩, 0, E)) ∨ ∃ n v, mOk n v = true ∧ s = tokB k n v ∧ opn k s (-1) = (n, v, 0) := by
  rcases opn_ways k s with h | h | ⟨n, v, h1, h2, h3, h4⟩
  · exact .inl ⟨4, by decide, .inl rfl, h _⟩
  · exact .inl ⟨7, by decide, .inr rfl, h _⟩
  · have := ((mOk_iff n v).1 h1).2.1
    exact .inr ⟨n, v, h1, h2, h4 _ (by omega)⟩
end Go.Proofs.YtdoedkgidcoibaaDoor
