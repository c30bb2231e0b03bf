/- What the document's Texts answers of two lists that are the same. -/
import Derived.Test.YtdoedkgidcoibaaDoorFields
namespace Go.Proofs.YtdoedkgidcoibaaDoor
open Go.RowKit
set_option linter.unusedVariables false

/-- a list of texts in memory -/
structure Txt (w : World) (ao : Option Addr) (n : Nat) (L : List ByteArray) : Prop where
  len_eq : L.length = n
  spot : 0 < n → ∃ b, ao = some ⟨b, 0, none⟩ ∧ b < w.heap.size ∧ ∀ i, i < n → w.cell? ⟨b, i, none⟩ = some (.string (L.getD i ⟨#[]⟩))
theorem Txt.below {w w' : World} {ao : Option Addr} {n : Nat} {L : List ByteArray} (h : Txt w ao n L) (hb : Below w.heap.size w w') : Txt w' ao n L := by
  refine ⟨h.len_eq, fun hp => ?_⟩
  obtain ⟨b, e, hlt, hc⟩ := h.spot hp
  exact ⟨b, e, Nat.lt_of_lt_of_le hlt hb.size, fun i hi => by rw [hb.cell hlt]; exact hc i hi⟩
theorem Txt.drewN {w : World} {ao : Option Addr} {n : Nat} {L : List ByteArray} (h : Txt w ao n L) (q : Nat) : Txt (w.drewN q) ao n L := ⟨h.len_eq, h.spot⟩
theorem Txt.of_owns {w : World} {B n : Nat} {v : Value} {L : List ByteArray} (h : w.ownsRow B 9 1 v n (sv L)) : ∃ ao cap, v = .slice ao n cap ∧ Txt w ao n L := by
  have hlen : L.length = n := by have := h.1; rw [sv_length] at this; omega
  rcases h.2 with ⟨rfl, hn⟩ | ⟨g, cap, cur, rfl, hb, hg, hnc, hcm, hcs, ht⟩
  · subst hn
    exact ⟨none, 0, rfl, hlen, fun hp => absurd hp (Nat.lt_irrefl _)⟩
  · refine ⟨some ⟨g, 0, none⟩, cap, rfl, hlen, fun _ => ⟨g, rfl, (Array.getElem?_eq_some_iff.1 hg).1, fun i hi => ?_⟩⟩
    have hc := h.cellAt i (by omega)
    rw [hc, List.getD_eq_getElem?_getD, List.getElem?_eq_getElem (by omega : i < L.length)]
    simp [sv, List.getElem?_eq_getElem (by omega : i < L.length)]
theorem Txt.grown {w w' : World} {ao : Option Addr} {n g : Nat} {L : List ByteArray} (h : Txt w ao n L) (hg : w.grownBy w' (some g)) (hne : ∀ b, ao = some ⟨b, 0, none⟩ → b ≠ g) : Txt w' ao n L := by
  refine ⟨h.len_eq, fun hp => ?_⟩
  obtain ⟨b, e, hlt, hc⟩ := h.spot hp
  refine ⟨b, e, Nat.lt_of_lt_of_le hlt hg.size, fun i hi => ?_⟩
  have hb : w'.heap[b]? = w.heap[b]? := hg.block b hlt (by intro h; exact hne b e (Option.some.inj h))
  rw [← hc i hi]
  unfold World.cell?
  rw [hb]
theorem fL_len (c : UInt8) (s : ByteArray) (most : Int) (hs : s.size ≤ 300) : (fL c s most).length ≤ 301 := by
  unfold fL
  split
  · have := cnt_all c s; have := cnt_le c s s.size; omega
  · simp
end Go.Proofs.YtdoedkgidcoibaaDoor
