/- Lists of changes and of pairs in memory. No walk. -/
import Derived.Test.YtjnjokbdoendkaaGreatSsm
import Derived.Test.YtjnjokbdoendkaaGreatWalMem
namespace Go.Proofs.YtjnjokbdoendkaaGreat
open Go.RowKit
set_option linter.unusedVariables false

/-- an element of a list: what it is, and where its bytes lie -/
structure It (α : Type) where
  x : α
  a : Option Addr
  n : Nat
  c : Nat
/-- its cells -/
def chE (z : It Chg) : List Value := [.string z.x.key, .bool z.x.del, .slice z.a z.n z.c]
def prE (z : It Pr) : List Value := [.string z.x.1, .slice z.a z.n z.c]
set_option maxRecDepth 100000 in
theorem chE_len (z : It Chg) : (chE z).length = 3 := rfl
set_option maxRecDepth 100000 in
theorem prE_len (z : It Pr) : (prE z).length = 2 := rfl
set_option maxRecDepth 100000 in
theorem prE_one (z : It Pr) : ∀ u ∈ prE z, u.oneCell' = true := by intro u hu; simp [prE] at hu; rcases hu with rfl | rfl <;> rfl
set_option maxRecDepth 100000 in
theorem frozen_keep {w w' : World} {k j : Nat} (h : w'.heap[k]? = w.heap[k]?) : w'.frozen? ⟨k, j, none⟩ = w.frozen? ⟨k, j, none⟩ := by simp [World.frozen?, h]
/-- no cell of it is frozen -/
def Unf (w : World) (k : Nat) : Prop := ∀ j, w.frozen? ⟨k, j, none⟩ = false
set_option maxRecDepth 100000 in
theorem Unf.keep {w w' : World} {k : Nat} (h : Unf w k) (hb : w'.heap[k]? = w.heap[k]?) : Unf w' k := fun j => (frozen_keep hb).trans (h j)
set_option maxRecDepth 100000 in
theorem own_unf {w : World} {base n c k : Nat} {E : TypeId} {a : Option Addr} {xs : List Value} (h : w.ownsRow base E k (.slice a n c) n xs) : ∀ p, a = some p → Unf w p.block := fun p e j => by
  rcases h.2 with ⟨h1, _⟩ | ⟨g, cap, cur, hv, _, hh, _⟩
  · cases h1; cases e
  · cases hv; cases e; exact frozen_of_row w g j _ _ hh
section
variable {α : Type} {en : It α → List Value} {k : Nat} {vl : α → List Int} {E : TypeId}
set_option maxRecDepth 100000 in
theorem flat_get (hk : ∀ z, (en z).length = k) (Z : List (It α)) (i j : Nat) (hi : i < Z.length) (hj : j < k) : (Z.flatMap en)[i * k + j]? = (en Z[i])[j]? := by
  induction Z generalizing i with
  | nil => simp at hi
  | cons z t ih =>
    rw [List.flatMap_cons]
    cases i with
    | zero => rw [Nat.zero_mul, Nat.zero_add, List.getElem?_append_left (by rw [hk]; exact hj)]; rfl
    | succ i =>
      rw [List.getElem?_append_right (by rw [hk, Nat.succ_mul]; omega), hk, show (i + 1) * k + j - k = i * k + j from by rw [Nat.succ_mul]; omega, ih i (by simpa using hi)]; rfl
set_option maxRecDepth 100000 in
theorem flatC_len (hk : ∀ z, (en z).length = k) (Z : List (It α)) : (Z.flatMap en).length = Z.length * k := by
  induction Z with
  | nil => simp
  | cons z t ih => rw [List.flatMap_cons, List.length_append, ih, hk, List.length_cons, Nat.succ_mul]; omega
/-- a list in memory, all of it in blocks of B -/
structure RT (en : It α → List Value) (k : Nat) (vl : α → List Int) (B : Nat → Prop) (w : World) (ao : Option Addr) (len cap : Nat) (L : List α) : Prop where
  len_eq : L.length = len
  le_cap : len ≤ cap
  cap_le : cap ≤ maxLen
  spot : 0 < len → ∃ b off, ao = some ⟨b, off, none⟩ ∧ b < w.heap.size ∧ B b ∧ ∀ i, i < len → ∃ z : It α, L[i]? = some z.x ∧ (∀ j, j < k → w.cell? ⟨b, off + i * k + j, none⟩ = (en z)[j]?) ∧ Bts w z.a z.n z.c (vl z.x) ∧ (0 < z.n → ∀ p, z.a = some p → B p.block)
set_option maxRecDepth 100000 in
theorem RT.keep {B B2 : Nat → Prop} {w w' : World} {ao : Option Addr} {len cap : Nat} {L : List α} (h : RT en k vl B w ao len cap L) (hb : ∀ k, k < w.heap.size → B k → w'.heap[k]? = w.heap[k]?) (hs : w.heap.size ≤ w'.heap.size) (ho : ∀ k, k < w.heap.size → B k → B2 k) : RT en k vl B2 w' ao len cap L :=
  ⟨h.len_eq, h.le_cap, h.cap_le, fun hp => by
    obtain ⟨b, off, e, hlt, hB, hc⟩ := h.spot hp
    refine ⟨b, off, e, Nat.lt_of_lt_of_le hlt hs, ho b hlt hB, fun i hi => ?_⟩
    obtain ⟨z, h1, h2, h3, h4⟩ := hc i hi
    exact ⟨z, h1, fun j hj => (World.cell?_of_block (w := w) (hb b hlt hB)).trans (h2 j hj), h3.keep (fun hp p e => hb _ (h3.lt hp e) (h4 hp p e)) hs, fun hp p e => ho _ (h3.lt hp e) (h4 hp p e)⟩⟩
set_option maxRecDepth 100000 in
theorem RT.below {B : Nat → Prop} {w w' : World} {ao : Option Addr} {len cap : Nat} {L : List α} (h : RT en k vl B w ao len cap L) (hb : Below w.heap.size w w') : RT en k vl B w' ao len cap L := h.keep (fun k hk _ => hb.block k hk) hb.size (fun _ _ h => h)
set_option maxRecDepth 100000 in
theorem RT.drewN {B : Nat → Prop} {w : World} {ao : Option Addr} {len cap : Nat} {L : List α} (h : RT en k vl B w ao len cap L) (n : Nat) : RT en k vl B (w.drewN n) ao len cap L := h.keep (fun _ _ _ => rfl) (Nat.le_refl _) (fun _ _ h => h)
set_option maxRecDepth 100000 in
theorem RT.kept {B own : Nat → Prop} {w w' : World} {ao : Option Addr} {len cap : Nat} {L : List α} (h : RT en k vl B w ao len cap L) (hb : Kept own w w') (hd : ∀ k, B k → ¬ own k) : RT en k vl B w' ao len cap L := h.keep (fun k hk ho => hb.block k hk (hd k ho)) hb.size (fun _ _ h => h)
set_option maxRecDepth 100000 in
theorem RT.any {B : Nat → Prop} {w : World} {ao : Option Addr} {len cap : Nat} {L : List α} (h : RT en k vl B w ao len cap L) : RT en k vl (fun _ => True) w ao len cap L := h.keep (fun _ _ _ => rfl) (Nat.le_refl _) (fun _ _ _ => trivial)
set_option maxRecDepth 100000 in
theorem RT.mono {B B2 : Nat → Prop} {w : World} {ao : Option Addr} {len cap : Nat} {L : List α} (h : RT en k vl B w ao len cap L) (ho : ∀ k, k < w.heap.size → B k → B2 k) : RT en k vl B2 w ao len cap L := h.keep (fun _ _ _ => rfl) (Nat.le_refl _) ho
set_option maxRecDepth 100000 in
theorem RT.nil (B : Nat → Prop) (w : World) : RT en k vl B w none 0 0 [] := ⟨rfl, Nat.le_refl _, Nat.zero_le _, fun hp => absurd hp (Nat.lt_irrefl _)⟩
set_option maxRecDepth 100000 in
/-- all of it lies low, and stays while what is low stays -/
theorem RT.low {B : Nat → Prop} {w : World} {ao : Option Addr} {len cap : Nat} {L : List α} (h : RT en k vl B w ao len cap L) : RT en k vl (fun k => k < w.heap.size) w ao len cap L := h.mono (fun k hk _ => hk)
set_option maxRecDepth 100000 in
theorem RT.stay {N : Nat} {w w' : World} {ao : Option Addr} {len cap : Nat} {L : List α} (h : RT en k vl (fun k => k < N) w ao len cap L) (hb : Below N w w') : RT en k vl (fun k => k < N) w' ao len cap L := h.keep (fun k _ ho => hb.block k ho) hb.size (fun _ _ h => h)
set_option maxRecDepth 100000 in
/-- its beginning -/
theorem RT.take {B : Nat → Prop} {w : World} {ao : Option Addr} {len cap : Nat} {L : List α} (h : RT en k vl B w ao len cap L) (m : Nat) (hm : m ≤ len) : RT en k vl B w ao m cap (L.take m) :=
  ⟨by rw [List.length_take, h.len_eq]; omega, Nat.le_trans hm h.le_cap, h.cap_le, fun hp => by
    obtain ⟨b, off, e, hlt, hB, hc⟩ := h.spot (by omega)
    refine ⟨b, off, e, hlt, hB, fun i hi => ?_⟩
    obtain ⟨z, h1, h2⟩ := hc i (by omega)
    exact ⟨z, by rw [List.getElem?_take, if_pos hi]; exact h1, h2⟩⟩
/-- an own list -/
structure RL (en : It α → List Value) (k : Nat) (vl : α → List Int) (E : TypeId) (w : World) (own : Nat → Prop) (v : Value) (L : List α) : Prop where
  row : ∃ Z : List (It α), Z.map (·.x) = L ∧ w.ownsRow 0 E k v L.length (Z.flatMap en) ∧ ∀ z ∈ Z, Bts w z.a z.n z.c (vl z.x) ∧ (0 < z.n → ∀ p, z.a = some p → own p.block ∧ v.ownBlock ≠ some p.block ∧ Unf w p.block)
  ob : ∀ k, v.ownBlock = some k → own k
set_option maxRecDepth 100000 in
theorem RL.nil (w : World) (own : Nat → Prop) : RL en k vl E w own (.slice none 0 0) [] := ⟨⟨[], rfl, World.ownsRow_nil _ _ _ _, fun i hi => by simp at hi⟩, fun k hk => by simp [Value.ownBlock] at hk⟩
set_option maxRecDepth 100000 in
theorem RL.keep {w w' : World} {own own2 : Nat → Prop} {v : Value} {L : List α} (h : RL en k vl E w own v L) (hb : ∀ k, k < w.heap.size → own k → w'.heap[k]? = w.heap[k]?) (hs : w.heap.size ≤ w'.heap.size) (ho : ∀ k, k < w.heap.size → own k → own2 k) : RL en k vl E w' own2 v L := by
  obtain ⟨Z, h0, h1, h2⟩ := h.row
  refine ⟨⟨Z, h0, ⟨h1.1, ?_⟩, fun z hz => ?_⟩, fun k hk => ho k (h1.lt k hk).2 (h.ob k hk)⟩
  · rcases h1.2 with h3 | ⟨g', cap', cur, hv, hg, hh, r⟩
    · exact .inl h3
    · exact .inr ⟨g', cap', cur, hv, hg, (hb g' (Array.getElem?_eq_some_iff.1 hh).1 (h.ob g' (by rw [hv]; rfl))).trans hh, r⟩
  · obtain ⟨e2, e3⟩ := h2 z hz
    exact ⟨e2.keep (fun hp p e => hb _ (e2.lt hp e) (e3 hp p e).1) hs, fun hp p e => ⟨ho _ (e2.lt hp e) (e3 hp p e).1, (e3 hp p e).2.1, (e3 hp p e).2.2.keep (hb _ (e2.lt hp e) (e3 hp p e).1)⟩⟩
set_option maxRecDepth 100000 in
theorem RL.below {w w' : World} {own : Nat → Prop} {v : Value} {L : List α} (h : RL en k vl E w own v L) (hb : Below w.heap.size w w') : RL en k vl E w' own v L := h.keep (fun k hk _ => hb.block k hk) hb.size (fun _ _ h => h)
set_option maxRecDepth 100000 in
theorem RL.drewN {w : World} {own : Nat → Prop} {v : Value} {L : List α} (h : RL en k vl E w own v L) (n : Nat) : RL en k vl E (w.drewN n) own v L := h.keep (fun _ _ _ => rfl) (Nat.le_refl _) (fun _ _ h => h)
set_option maxRecDepth 100000 in
theorem RL.kept {w w' : World} {own own2 : Nat → Prop} {v : Value} {L : List α} (h : RL en k vl E w own v L) (hb : Kept own2 w w') (hd : ∀ k, own k → ¬ own2 k) : RL en k vl E w' own v L := h.keep (fun k hk ho => hb.block k hk (hd k ho)) hb.size (fun _ _ h => h)
set_option maxRecDepth 100000 in
theorem RL.mono {w : World} {own own2 : Nat → Prop} {v : Value} {L : List α} (h : RL en k vl E w own v L) (ho : ∀ k, k < w.heap.size → own k → own2 k) : RL en k vl E w own2 v L := h.keep (fun _ _ _ => rfl) (Nat.le_refl _) ho
set_option maxRecDepth 100000 in
theorem RL.list {w : World} {own : Nat → Prop} {v : Value} {L M : List α} (h : RL en k vl E w own v L) (e : L = M) : RL en k vl E w own v M := by rw [← e]; exact h
set_option maxRecDepth 100000 in
theorem RL.lt {w : World} {own : Nat → Prop} {v : Value} {L : List α} (h : RL en k vl E w own v L) {j : Nat} (hj : v.ownBlock = some j) : j < w.heap.size := by
  obtain ⟨Z, h0, h1, h2⟩ := h.row
  exact (h1.lt j hj).2
set_option maxRecDepth 100000 in
theorem RL.form {w : World} {own : Nat → Prop} {v : Value} {L : List α} (h : RL en k vl E w own v L) : ∃ a c, v = .slice a L.length c ∧ c ≤ maxLen := by
  obtain ⟨Z, _, ho, _⟩ := h.row
  rcases ho.2 with ⟨rfl, h0⟩ | ⟨g, cap, cur, rfl, hb, hg, hnc, hcm, hcs, ht⟩
  · exact ⟨none, 0, by rw [h0], Nat.zero_le _⟩
  · exact ⟨some ⟨g, 0, none⟩, cap, rfl, hcm⟩
set_option maxRecDepth 100000 in
theorem RL.rt (hk : ∀ z, (en z).length = k) {w : World} {own : Nat → Prop} {v : Value} {L : List α} (h : RL en k vl E w own v L) : ∃ a c, v = .slice a L.length c ∧ RT en k vl own w a L.length c L := by
  obtain ⟨Z, hZ, ho, hx⟩ := h.row
  have hob := h.ob
  have hZl : Z.length = L.length := by rw [← hZ, List.length_map]
  rcases ho.2 with ⟨rfl, h0⟩ | ⟨g, cap, cur, rfl, hb, hg, hnc, hcm, hcs, ht⟩
  · exact ⟨none, 0, by rw [h0], rfl, by omega, Nat.zero_le _, fun hp => by omega⟩
  · refine ⟨some ⟨g, 0, none⟩, cap, rfl, rfl, hnc, hcm, fun hp => ⟨g, 0, rfl, (Array.getElem?_eq_some_iff.1 hg).1, hob g rfl, fun i hi => ?_⟩⟩
    have hi2 : i < Z.length := by omega
    obtain ⟨e2, e3⟩ := hx Z[i] (List.getElem_mem hi2)
    refine ⟨Z[i], by rw [← hZ, List.getElem?_map, List.getElem?_eq_getElem hi2]; rfl, fun j hj => ?_, e2, fun hp p e => (e3 hp p e).1⟩
    rw [Nat.zero_add, ho.cellAt (i * k + j) (by have : (i + 1) * k ≤ L.length * k := Nat.mul_le_mul_right _ hi; rw [Nat.succ_mul] at this; omega), flat_get hk Z i j hi2 hj]
/-- an append of one element to an own list: what it asks, what it gives -/
structure RA (en : It α → List Value) (k : Nat) (vl : α → List Int) (w : World) (own : Nat → Prop) (v : Value) (L : List α) (Z : List (It α)) : Prop where
  z : Z.map (·.x) = L
  b : ∀ z ∈ Z, Bts w z.a z.n z.c (vl z.x) ∧ (0 < z.n → ∀ p, z.a = some p → own p.block ∧ v.ownBlock ≠ some p.block ∧ Unf w p.block)
set_option maxRecDepth 100000 in
theorem RL.open {w : World} {own : Nat → Prop} {v : Value} {L : List α} (h : RL en k vl E w own v L) : ∃ Z : List (It α), w.ownsRow 0 E k v L.length (Z.flatMap en) ∧ Bx (RA en k vl w own v L Z) := by
  obtain ⟨Z, h0, h1, h2⟩ := h.row
  exact ⟨Z, h1, ⟨h0, h2⟩⟩
set_option maxRecDepth 100000 in
theorem RA.done {w wB w' : World} {own own2 : Nat → Prop} {v : Value} {L : List α} {Z : List (It α)} {z : It α} {g cap m : Nat} {news : List Value} (h : RA en k vl w own v L Z) (hm : m = L.length) (hz : news = en z) (hbt : Bts w z.a z.n z.c (vl z.x)) (hne : 0 < z.n → ∀ p, z.a = some p → own2 p.block ∧ v.ownBlock ≠ some p.block ∧ Unf w p.block)
    (hB : Below w.heap.size w wB)
    (ho : w'.ownsRow 0 E k (.slice (some ⟨g, 0, none⟩) (m + 1) cap) (m + 1) (Z.flatMap en ++ news)) (hg : wB.grownBy w' v.ownBlock) (hl : v.ownBlock = some g ∨ w.heap.size ≤ g)
    (ho2 : ∀ k, own k → own2 k) (hg2 : own2 g) : RL en k vl E w' own2 (.slice (some ⟨g, 0, none⟩) (m + 1) cap) (L ++ [z.x]) := by
  subst hm hz
  have hcar : ∀ {ai : Option Addr} {li ci : Nat} {y : List Int}, Bts w ai li ci y → (0 < li → ∀ p, ai = some p → own2 p.block ∧ v.ownBlock ≠ some p.block ∧ Unf w p.block) → Bts w' ai li ci y ∧ (0 < li → ∀ p, ai = some p → own2 p.block ∧ (Value.slice (some ⟨g, 0, none⟩) (L.length + 1) cap).ownBlock ≠ some p.block ∧ Unf w' p.block) := by
    intro ai li ci y hy hn
    have hbl : ∀ (hp : 0 < li) p (e : ai = some p), w'.heap[p.block]? = w.heap[p.block]? := fun hp p e => (hg.block _ (Nat.lt_of_lt_of_le (hy.lt hp e) hB.size) (fun hh => (hn hp p e).2.1 hh.symm)).trans (hB.block _ (hy.lt hp e))
    refine ⟨hy.keep (fun hp p e => hbl hp p e) (Nat.le_trans hB.size hg.size), fun hp p e => ⟨(hn hp p e).1, ?_, (hn hp p e).2.2.keep (hbl hp p e)⟩⟩
    show some g ≠ some p.block
    rcases hl with h1 | h1
    · rw [← h1]; exact (hn hp p e).2.1
    · intro e2
      have e4 : g = p.block := Option.some.inj e2
      have := hy.lt hp e
      omega
  refine ⟨⟨Z ++ [z], by rw [List.map_append, h.z]; rfl, by rw [List.length_append, List.flatMap_append]; simpa using ho, fun y hy => ?_⟩, fun k hk => ?_⟩
  · rcases List.mem_append.1 hy with hy | hy
    · obtain ⟨e2, e3⟩ := h.b y hy
      exact hcar e2 (fun hp p e => ⟨ho2 _ (e3 hp p e).1, (e3 hp p e).2⟩)
    · obtain rfl : y = z := by simpa using hy
      exact hcar hbt hne
  · have e : g = k := by simpa [Value.ownBlock] using hk
    rw [← e]; exact hg2
end
/-- changes, pairs -/
abbrev CT := RT chE 3 Chg.val
abbrev PT := RT prE 2 (fun p : Pr => p.2)
abbrev CL := RL chE 3 Chg.val 48
abbrev PL := RL prE 2 (fun p : Pr => p.2) 114
set_option maxRecDepth 100000 in
/-- a change of a list -/
theorem RT.chg {B : Nat → Prop} {w : World} {ao : Option Addr} {len cap : Nat} {L : List Chg} (h : CT B w ao len cap L) (i : Nat) (hi : i < len) : ∃ b off ai ni ci, ao = some ⟨b, off, none⟩ ∧ b < w.heap.size ∧ B b ∧
    w.cell? ⟨b, off + i * 3, none⟩ = some (.string (L[i]'(by rw [h.len_eq]; exact hi)).key) ∧ w.cell? ⟨b, off + i * 3 + 1, none⟩ = some (.bool (L[i]'(by rw [h.len_eq]; exact hi)).del) ∧ w.cell? ⟨b, off + i * 3 + 2, none⟩ = some (.slice ai ni ci) ∧
    Bts w ai ni ci (L[i]'(by rw [h.len_eq]; exact hi)).val ∧ (0 < ni → ∀ p, ai = some p → B p.block) := by
  obtain ⟨b, off, e, hlt, hB, hc⟩ := h.spot (by omega)
  obtain ⟨z, h1, h2, h3, h4⟩ := hc i hi
  have hi2 : i < L.length := by rw [h.len_eq]; exact hi
  have e1 : L[i] = z.x := by rw [List.getElem?_eq_getElem hi2] at h1; exact Option.some.inj h1
  refine ⟨b, off, z.a, z.n, z.c, e, hlt, hB, ?_, ?_, ?_, ?_, h4⟩
  · rw [e1]; exact h2 0 (by omega)
  · rw [e1]; exact h2 1 (by omega)
  · exact h2 2 (by omega)
  · rw [e1]; exact h3
end Go.Proofs.YtjnjokbdoendkaaGreat
