/- Lists of plain structs in memory. No walk. Instructions, depths and marks in memory. No walk. Events and operations in memory. No walk. Append to an owned list, and where it lies then. Places as numbers; what lies where it lay, or is new. No walk. A new variable of so many cells, whatever is in it. No walk. What stays when new memory is made. No walk. One of the bools of a list. No walk. -/
import Derived.Test.YtbjeeefkbmdmfaaKeep
import Derived.Test.YtbjeeefkbmdmfaaLnb
import Derived.Test.YtbjeeefkbmdmfaaLna
import Derived.Laws.AppendOwn
import Derived.Test.YtbjeeefkbmdmfaaAlloc
namespace Go.Proofs.Ytbjeeefkbmdmfaa
open Go.RowKit
set_option linter.unusedVariables false

section
variable {α : Type} {en : α → List Value} {k : Nat} {E : TypeId}
set_option maxRecDepth 100000 in
theorem flatE_len (hk : ∀ z, (en z).length = k) (Z : List α) : (Z.flatMap en).length = Z.length * k := by
  induction Z with
  | nil => simp
  | cons z t ih => rw [List.flatMap_cons, List.length_append, ih, hk, List.length_cons, Nat.succ_mul]; omega
set_option maxRecDepth 100000 in
theorem flatE_get (hk : ∀ z, (en z).length = k) (Z : List α) (i j : Nat) (hi : i < Z.length) (hj : j < k) : (Z.flatMap en)[i * k + j]? = (en Z[i])[j]? := by
  induction Z generalizing i with
  | nil => simp at hi
  | cons z t ih =>
    rw [List.flatMap_cons]
    cases i with
    | zero => rw [Nat.zero_mul, Nat.zero_add, List.getElem?_append_left (by rw [hk]; exact hj)]; rfl
    | succ i =>
      rw [List.getElem?_append_right (by rw [hk, Nat.succ_mul]; omega), hk, show (i + 1) * k + j - k = i * k + j from by rw [Nat.succ_mul]; omega, ih i (by simpa using hi)]; rfl
set_option maxRecDepth 100000 in
theorem flatE_one (h1 : ∀ z, ∀ u ∈ en z, u.oneCell' = true) (Z : List α) : ∀ u ∈ Z.flatMap en, u.oneCell' = true := fun u hu => by
  obtain ⟨z, _, h⟩ := List.mem_flatMap.1 hu
  exact h1 z u h
/-- a list of plain structs in memory -/
structure Ls (en : α → List Value) (k : Nat) (w : World) (ao : Option Addr) (len cap : Nat) (L : List α) : Prop where
  len_eq : L.length = len
  le_cap : len ≤ cap
  cap_le : cap ≤ maxLen
  nil : ao = none → cap = 0
  spot : 0 < len → ∃ b off, ao = some ⟨b, off, none⟩ ∧ b < w.heap.size ∧ ∀ i (h : i < L.length), ∀ j, j < k → w.cell? ⟨b, off + i * k + j, none⟩ = (en L[i])[j]?
variable {w w' : World} {ao : Option Addr} {len cap : Nat} {L M : List α}
set_option maxRecDepth 100000 in
theorem Ls.keep (h : Ls en k w ao len cap L) (hb : ∀ p, ao = some p → p.block < w.heap.size → w'.heap[p.block]? = w.heap[p.block]?) (hs : w.heap.size ≤ w'.heap.size) : Ls en k w' ao len cap L :=
  ⟨h.len_eq, h.le_cap, h.cap_le, h.nil, fun hp => by
    obtain ⟨b, off, e, hlt, hc⟩ := h.spot hp
    have h1 : w'.heap[b]? = w.heap[b]? := hb _ e hlt
    exact ⟨b, off, e, Nat.lt_of_lt_of_le hlt hs, fun i hi j hj => (World.cell?_of_block (w := w) h1).trans (hc i hi j hj)⟩⟩
set_option maxRecDepth 100000 in
theorem Ls.below (h : Ls en k w ao len cap L) (hb : Below w.heap.size w w') : Ls en k w' ao len cap L := h.keep (fun p _ hlt => hb.block p.block hlt) hb.size
set_option maxRecDepth 100000 in
theorem Ls.drewN (h : Ls en k w ao len cap L) (n : Nat) : Ls en k (w.drewN n) ao len cap L := h.keep (fun _ _ _ => rfl) (Nat.le_refl _)
set_option maxRecDepth 100000 in
theorem Ls.list (h : Ls en k w ao len cap L) (e : L = M) : Ls en k w ao len cap M := by rw [← e]; exact h
set_option maxRecDepth 100000 in
theorem Ls.empty (w : World) : Ls en k w none 0 0 [] := ⟨rfl, Nat.le_refl _, Nat.zero_le _, fun _ => rfl, fun hp => absurd hp (Nat.lt_irrefl _)⟩
set_option maxRecDepth 100000 in
/-- its beginning -/
theorem Ls.take (h : Ls en k w ao len cap L) (m : Nat) (hm : m ≤ len) : Ls en k w ao m cap (L.take m) :=
  ⟨by rw [List.length_take, h.len_eq]; omega, Nat.le_trans hm h.le_cap, h.cap_le, h.nil, fun hp => by
    obtain ⟨b, off, e, hlt, hc⟩ := h.spot (by omega)
    refine ⟨b, off, e, hlt, fun i hi j hj => ?_⟩
    have hi2 : i < m ∧ i < L.length := by rw [List.length_take] at hi; omega
    rw [hc i hi2.2 j hj, List.getElem_take]⟩
set_option maxRecDepth 100000 in
/-- its cells, one behind the other -/
theorem Ls.cells (hk : ∀ z, (en z).length = k) (h : Ls en k w ao len cap L) {ad : Addr} (ha : ao = some ad) : ∀ j u, (L.flatMap en)[j]? = some u → w.cell? (ad.add j) = some u := by
  intro j u hu
  have hj : j < L.length * k := by have := (List.getElem?_eq_some_iff.1 hu).1; rwa [flatE_len hk] at this
  have hl := h.len_eq
  have hk0 : 0 < k := by rcases Nat.eq_zero_or_pos k with e | e; (rw [e, Nat.mul_zero] at hj; omega); exact e
  have hi : j / k < L.length := (Nat.div_lt_iff_lt_mul hk0).2 hj
  have hp : 0 < len := by rw [← hl]; exact Nat.lt_of_le_of_lt (Nat.zero_le _) hi
  obtain ⟨b, off, e, hlt, hc⟩ := h.spot hp
  rw [ha] at e
  cases e
  have e1 : j / k * k + j % k = j := by rw [Nat.mul_comm]; exact Nat.div_add_mod j k
  have h1 := flatE_get hk L (j / k) (j % k) hi (Nat.mod_lt _ hk0)
  rw [e1, hu] at h1
  rw [Addr.add_lit, h1, ← hc (j / k) hi (j % k) (Nat.mod_lt _ hk0), Nat.add_assoc, e1]
set_option maxRecDepth 100000 in
/-- what is owned reads as the list -/
theorem Ls.of_owns (hk : ∀ z, (en z).length = k) {base n : Nat} {v : Value} (h : w.ownsRow base E k v n (L.flatMap en)) (hn : L.length = n) : ∃ ao cap, v = .slice ao n cap ∧ Ls en k w ao n cap L := by
  rcases h.2 with ⟨rfl, h0⟩ | ⟨g, cap, cur, rfl, hb, hg, hnc, hcm, hcs, ht⟩
  · subst h0
    exact ⟨none, 0, rfl, hn, Nat.le_refl _, Nat.zero_le _, fun _ => rfl, fun hp => absurd hp (Nat.lt_irrefl _)⟩
  · refine ⟨some ⟨g, 0, none⟩, cap, rfl, hn, hnc, hcm, (fun hh => by cases hh), fun _ => ⟨g, 0, rfl, (Array.getElem?_eq_some_iff.1 hg).1, fun i hi j hj => ?_⟩⟩
    have h1 : (i + 1) * k ≤ n * k := Nat.mul_le_mul_right _ (by omega)
    rw [Nat.succ_mul] at h1
    rw [Nat.zero_add, h.cellAt (i * k + j) (by omega), flatE_get hk L i j hi hj]
end
end Go.Proofs.Ytbjeeefkbmdmfaa
namespace Go.Proofs.Ytbjeeefkbmdmfaa
open Go.RowKit
set_option linter.unusedVariables false

def icC (x : Ic) : List Value := [.int .i64 x.o, .int .i64 x.n]
def ivC (d : Int) : List Value := [.int .i64 d]
def bvC (g : Bool) : List Value := [.bool g]
set_option maxRecDepth 100000 in
theorem icC_len (x : Ic) : (icC x).length = 2 := rfl
set_option maxRecDepth 100000 in
theorem ivC_len (d : Int) : (ivC d).length = 1 := rfl
set_option maxRecDepth 100000 in
theorem bvC_len (g : Bool) : (bvC g).length = 1 := rfl
set_option maxRecDepth 100000 in
theorem icC_one (x : Ic) : ∀ u ∈ icC x, u.oneCell' = true := by intro u hu; simp [icC] at hu; rcases hu with rfl | rfl <;> rfl
set_option maxRecDepth 100000 in
theorem ivC_one (d : Int) : ∀ u ∈ ivC d, u.oneCell' = true := by intro u hu; simp [ivC] at hu; subst hu; rfl
set_option maxRecDepth 100000 in
theorem bvC_one (g : Bool) : ∀ u ∈ bvC g, u.oneCell' = true := by intro u hu; simp [bvC] at hu; subst hu; rfl
/-- instructions, numbers, bools in memory -/
abbrev Ics := Ls icC 2
abbrev Ivs := Ls ivC 1
abbrev Bvs := Ls bvC 1
set_option maxRecDepth 100000 in
theorem Ls.ic {w : World} {ao : Option Addr} {len cap : Nat} {L : List Ic} (h : Ics w ao len cap L) (i : Nat) (hi : i < len) : ∃ b off, ao = some ⟨b, off, none⟩ ∧ b < w.heap.size ∧ w.cell? ⟨b, off + i * 2, none⟩ = some (.int .i64 (L.getD i ic0).o) ∧ w.cell? ⟨b, off + i * 2 + 1, none⟩ = some (.int .i64 (L.getD i ic0).n) := by
  obtain ⟨b, off, e, hlt, hc⟩ := h.spot (by omega)
  have hi2 : i < L.length := by rw [h.len_eq]; exact hi
  have e1 : L.getD i ic0 = L[i] := by rw [List.getD_eq_getElem?_getD, List.getElem?_eq_getElem hi2]; rfl
  rw [e1]
  exact ⟨b, off, e, hlt, hc i hi2 0 (by decide), hc i hi2 1 (by decide)⟩
set_option maxRecDepth 100000 in
theorem Ls.iv {w : World} {ao : Option Addr} {len cap : Nat} {L : List Int} (h : Ivs w ao len cap L) (i : Nat) (hi : i < len) (z : Int) : ∃ b off, ao = some ⟨b, off, none⟩ ∧ b < w.heap.size ∧ w.cell? ⟨b, off + i, none⟩ = some (.int .i64 (L.getD i z)) := by
  obtain ⟨b, off, e, hlt, hc⟩ := h.spot (by omega)
  have hi2 : i < L.length := by rw [h.len_eq]; exact hi
  have e1 : L.getD i z = L[i] := by rw [List.getD_eq_getElem?_getD, List.getElem?_eq_getElem hi2]; rfl
  have h1 := hc i hi2 0 (by decide)
  rw [Nat.mul_one, Nat.add_zero] at h1
  exact ⟨b, off, e, hlt, by rw [e1]; exact h1⟩
set_option maxRecDepth 100000 in
theorem iv_map (D : List Int) : D.flatMap ivC = D.map (Value.int .i64) := by
  induction D with
  | nil => rfl
  | cons d t ih => rw [List.flatMap_cons, ih]; rfl
set_option maxRecDepth 100000 in
theorem bv_map (G : List Bool) : G.flatMap bvC = G.map Value.bool := by
  induction G with
  | nil => rfl
  | cons d t ih => rw [List.flatMap_cons, ih]; rfl
set_option maxRecDepth 100000 in
theorem iv_set (D : List Int) (j : Nat) (d : Int) : (D.flatMap ivC).set j (.int .i64 d) = (D.set j d).flatMap ivC := by rw [iv_map, iv_map, List.map_set]
set_option maxRecDepth 100000 in
theorem bv_set (G : List Bool) (j : Nat) (g : Bool) : (G.flatMap bvC).set j (.bool g) = (G.set j g).flatMap bvC := by rw [bv_map, bv_map, List.map_set]
set_option maxRecDepth 100000 in
theorem iv_get (D : List Int) (j : Nat) (h : j < D.length) (z : Int) : (D.flatMap ivC)[j]? = some (.int .i64 (D.getD j z)) := by rw [iv_map, List.getElem?_map, List.getElem?_eq_getElem h, List.getD_eq_getElem?_getD, List.getElem?_eq_getElem h]; rfl
set_option maxRecDepth 100000 in
theorem bv_get' (G : List Bool) (j : Nat) (h : j < G.length) (z : Bool) : (G.flatMap bvC)[j]? = some (.bool (G.getD j z)) := by rw [bv_map, List.getElem?_map, List.getElem?_eq_getElem h, List.getD_eq_getElem?_getD, List.getElem?_eq_getElem h]; rfl
set_option maxRecDepth 100000 in
/-- the two cells of an instruction are written -/
theorem ics_set : ∀ (Z : List Ic) (j : Nat) (o n : Int), j < Z.length → ((Z.flatMap icC).set (j * 2) (.int .i64 o)).set (j * 2 + 1) (.int .i64 n) = (Z.set j ⟨o, n⟩).flatMap icC
  | [], j, _, _, h => absurd h (Nat.not_lt_zero j)
  | z :: Z, 0, _, _, _ => by rfl
  | z :: Z, j + 1, o, n, h => by
    have ih := ics_set Z j o n (by simpa using h)
    have hs : ∀ (t : List Value) (p : Nat) (u : Value), (icC z ++ t).set (p + 2) u = icC z ++ t.set p u := fun t p u => rfl
    show (((icC z ++ Z.flatMap icC).set ((j + 1) * 2) (.int .i64 o)).set ((j + 1) * 2 + 1) (.int .i64 n)) = icC z ++ (Z.set j ⟨o, n⟩).flatMap icC
    rw [show (j + 1) * 2 + 1 = j * 2 + 1 + 2 from by omega, show (j + 1) * 2 = j * 2 + 2 from by omega, hs, hs, ih]
set_option maxRecDepth 100000 in
/-- the number of an instruction is written -/
theorem ics_num : ∀ (Z : List Ic) (j : Nat) (n : Int), j < Z.length → (Z.flatMap icC).set (j * 2 + 1) (.int .i64 n) = (Z.set j ⟨(Z.getD j ic0).o, n⟩).flatMap icC
  | [], j, _, h => absurd h (Nat.not_lt_zero j)
  | z :: Z, 0, _, _ => by rfl
  | z :: Z, j + 1, n, h => by
    have ih := ics_num Z j n (by simpa using h)
    have hs : ∀ (t : List Value) (p : Nat) (u : Value), (icC z ++ t).set (p + 2) u = icC z ++ t.set p u := fun t p u => rfl
    show ((icC z ++ Z.flatMap icC).set ((j + 1) * 2 + 1) (.int .i64 n)) = icC z ++ (Z.set j ⟨(Z.getD j ic0).o, n⟩).flatMap icC
    rw [show (j + 1) * 2 + 1 = j * 2 + 1 + 2 from by omega, hs, ih]
end Go.Proofs.Ytbjeeefkbmdmfaa
namespace Go.Proofs.Ytbjeeefkbmdmfaa
open Go.RowKit
set_option linter.unusedVariables false

def evC (x : Ev) : List Value := [.int .i64 x.c, .bool x.k, .int .i64 x.o, .int .i64 x.v]
def orC (o : Opr) : List Value := [.int .i64 o.c, .int .i64 o.o, .int .i64 o.a, .bool o.d, .int .i64 o.r, .int .i64 o.f, .int .i64 o.t]
set_option maxRecDepth 100000 in
theorem evC_len (x : Ev) : (evC x).length = 4 := rfl
set_option maxRecDepth 100000 in
theorem orC_len (o : Opr) : (orC o).length = 7 := rfl
set_option maxRecDepth 100000 in
theorem evC_one (x : Ev) : ∀ u ∈ evC x, u.oneCell' = true := by intro u hu; simp [evC] at hu; rcases hu with rfl | rfl | rfl | rfl <;> rfl
set_option maxRecDepth 100000 in
theorem orC_one (o : Opr) : ∀ u ∈ orC o, u.oneCell' = true := by intro u hu; simp [orC] at hu; rcases hu with rfl | rfl | rfl | rfl | rfl | rfl | rfl <;> rfl
abbrev Evs := Ls evC 4
abbrev Ors := Ls orC 7
/-- its numbers are ints -/
structure EvK (x : Ev) : Prop where
  c : V64 x.c
  o : V64 x.o
  v : V64 x.v
def EvsK (L : List Ev) : Prop := ∀ x ∈ L, EvK x
set_option maxRecDepth 100000 in
theorem EvsK.take {L : List Ev} (h : EvsK L) (n : Nat) : EvsK (L.take n) := fun x hx => h x (List.mem_of_mem_take hx)
set_option maxRecDepth 100000 in
theorem EvsK.get {L : List Ev} (h : EvsK L) (i : Nat) (hi : i < L.length) : EvK (L.getD i ev0) := by
  rw [List.getD_eq_getElem?_getD, List.getElem?_eq_getElem hi]; exact h _ (List.getElem_mem hi)
set_option maxRecDepth 100000 in
/-- an event of a list -/
theorem Ls.ev {w : World} {ao : Option Addr} {len cap : Nat} {L : List Ev} (h : Evs w ao len cap L) (i : Nat) (hi : i < len) : ∃ b off, ao = some ⟨b, off, none⟩ ∧ b < w.heap.size ∧
    w.cell? ⟨b, off + i * 4, none⟩ = some (.int .i64 (L.getD i ev0).c) ∧ w.cell? ⟨b, off + i * 4 + 1, none⟩ = some (.bool (L.getD i ev0).k) ∧ w.cell? ⟨b, off + i * 4 + 2, none⟩ = some (.int .i64 (L.getD i ev0).o) ∧ w.cell? ⟨b, off + i * 4 + 3, none⟩ = some (.int .i64 (L.getD i ev0).v) := by
  obtain ⟨b, off, e, hlt, hc⟩ := h.spot (by omega)
  have hi2 : i < L.length := by rw [h.len_eq]; exact hi
  have e1 : L.getD i ev0 = L[i] := by rw [List.getD_eq_getElem?_getD, List.getElem?_eq_getElem hi2]; rfl
  rw [e1]
  exact ⟨b, off, e, hlt, hc i hi2 0 (by decide), hc i hi2 1 (by decide), hc i hi2 2 (by decide), hc i hi2 3 (by decide)⟩
set_option maxRecDepth 100000 in
/-- an operation of a list -/
theorem Ls.or {w : World} {ao : Option Addr} {len cap : Nat} {L : List Opr} (h : Ors w ao len cap L) (i : Nat) (hi : i < len) : ∃ b off, ao = some ⟨b, off, none⟩ ∧ b < w.heap.size ∧
    w.cell? ⟨b, off + i * 7, none⟩ = some (.int .i64 (L.getD i op0).c) ∧ w.cell? ⟨b, off + i * 7 + 1, none⟩ = some (.int .i64 (L.getD i op0).o) ∧ w.cell? ⟨b, off + i * 7 + 2, none⟩ = some (.int .i64 (L.getD i op0).a) ∧ w.cell? ⟨b, off + i * 7 + 3, none⟩ = some (.bool (L.getD i op0).d) ∧
    w.cell? ⟨b, off + i * 7 + 4, none⟩ = some (.int .i64 (L.getD i op0).r) ∧ w.cell? ⟨b, off + i * 7 + 5, none⟩ = some (.int .i64 (L.getD i op0).f) ∧ w.cell? ⟨b, off + i * 7 + 6, none⟩ = some (.int .i64 (L.getD i op0).t) := by
  obtain ⟨b, off, e, hlt, hc⟩ := h.spot (by omega)
  have hi2 : i < L.length := by rw [h.len_eq]; exact hi
  have e1 : L.getD i op0 = L[i] := by rw [List.getD_eq_getElem?_getD, List.getElem?_eq_getElem hi2]; rfl
  rw [e1]
  exact ⟨b, off, e, hlt, hc i hi2 0 (by decide), hc i hi2 1 (by decide), hc i hi2 2 (by decide), hc i hi2 3 (by decide), hc i hi2 4 (by decide), hc i hi2 5 (by decide), hc i hi2 6 (by decide)⟩
end Go.Proofs.Ytbjeeefkbmdmfaa
namespace Go.Proofs.Ytbjeeefkbmdmfaa
open Go.RowKit
set_option linter.unusedVariables false

/-- it lies where it lay, or it is new -/
def At (w : World) (v v' : Value) : Prop := v'.ownBlock = v.ownBlock ∨ v'.ownBlock = some w.heap.size
set_option maxRecDepth 100000 in
theorem append_at {P : Program} {w : World} (base : Nat) (t ty e : TypeId) (i : TypeInfo) (z : Value) (size bytes : Nat) (ht : P.underlying t = some (.slice e)) (hi : P.info? e = some i) (hz : i.zero = some z)
    (hsize : i.size = size) (hby : i.bytes = bytes) (hzs : z.cells.size = size) (hsz : 0 < size) (v : Value) (n : Nat) (xs : List Value) (hown : w.ownsRow base e size v n xs)
    (ad : Addr) (m c : Nat) (news : List Value) (hl : news.length = m * size) (hnews : ∀ j u, news[j]? = some u → w.cell? (ad.add j) = some u) (h1 : ∀ u ∈ news, u.oneCell' = true)
    (hm : 0 < m) (h63 : n + m ≤ maxLen) (hbytes : (n + m) * bytes ≤ 140737488355328) (hbase : base ≤ w.heap.size) :
    ∃ v' w', (Builtin.append_ #[t, t] ty #[v, .slice (some ad) m c]).run P w = .ok v' w' ∧ w'.ownsRow base e size v' (n + m) (xs ++ news) ∧ w.grownBy w' v.ownBlock ∧ At w v v' := by
  obtain ⟨v', w', hr, h2, h3, _⟩ := run_append_own (P := P) w base t ty e i z size bytes ht hi hz hsize hby hzs hsz v n xs hown ad m c news hl hnews h1 h63 hbytes hbase
  refine ⟨v', w', hr, h2, h3, ?_⟩
  subst hsize
  subst hby
  have h63' : n + m ≤ 9223372036854775807 := by simp only [maxLen] at h63; omega
  rcases hown.2 with ⟨rfl, rfl⟩ | ⟨g, cap, cur, rfl, _, hg, _, _, hcs, _⟩
  · have hr2 := run_append_nil (P := P) w t ty e i z ht hi hz ad m c news hl hnews hm (by omega) (by have hb := hbytes; simp only [Nat.zero_add] at hb; omega)
    rw [hr2] at hr
    cases hr
    exact .inr rfl
  · by_cases hroom : n + m ≤ cap
    · have hfit : n * i.size + news.length ≤ cur.size := by rw [hl, hcs, ← Nat.add_mul]; exact Nat.mul_le_mul_right _ hroom
      have hr2 := run_append_room (P := P) w t ty e i ht hi g n cap cur hg ad m c news hl hnews h1 hroom hfit
      rw [hr2] at hr
      cases hr
      exact .inl rfl
    · have hr2 := run_append_grow (P := P) w t ty e i z ht hi hz ⟨g, 0, none⟩ n cap xs hown.1 (hown.cells (g := g) rfl) ad m c news hl hnews (by omega) (by omega) (growslice_fits (by omega) hbytes)
      rw [hr2] at hr
      cases hr
      exact .inr rfl
set_option maxRecDepth 100000 in
theorem wp_append_at {P : Program} {w : World} {o : Oper} {a : Act} {K : Act → World → Prop} {Q : Exit → Act → World → Prop} (s x : Operand) (t : TypeId)
    (ho : o.op = .call { callee := .builtin .append, args := #[s, x], argTypes := #[t, t] })
    (base : Nat) (e : TypeId) (i : TypeInfo) (z : Value) (size bytes : Nat) (ht : P.underlying t = some (.slice e)) (hi : P.info? e = some i) (hz : i.zero = some z)
    (hsize : i.size = size) (hby : i.bytes = bytes) (hzs : z.cells.size = size) (hsz : 0 < size) (v : Value) (n : Nat) (xs : List Value) (hs : a.eval s = v) (hown : w.ownsRow base e size v n xs)
    (ad : Addr) (m c : Nat) (news : List Value) (hx : a.eval x = .slice (some ad) m c) (hl : news.length = m * size) (hnews : ∀ j u, news[j]? = some u → w.cell? (ad.add j) = some u) (h1 : ∀ u ∈ news, u.oneCell' = true)
    (hm : 0 < m) (h63 : n + m ≤ maxLen) (hbytes : (n + m) * bytes ≤ 140737488355328) (hbase : base ≤ w.heap.size)
    (h : ∀ v' w', w'.ownsRow base e size v' (n + m) (xs ++ news) → w.grownBy w' v.ownBlock → At w v v' → K (a.put o.dst v') w') : o.wp P a w K Q := by
  obtain ⟨v', w', hr, h2, h3, h4⟩ := append_at (P := P) base t o.type e i z size bytes ht hi hz hsize hby hzs hsz v n xs hown ad m c news hl hnews h1 hm h63 hbytes hbase
  unfold Oper.wp execOp
  simp only [ho, resolve, invoke, builtin, Sem.run_bind, Sem.run_pure, Result.andThen_ok, List.map_toArray, List.map_cons, List.map_nil, hs, hx, hr]
  exact h v' w' h2 h3 h4
set_option maxRecDepth 100000 in
theorem wpList_append_at {P : Program} {w : World} {ops : Array Oper} {rest : List Oper} {o : Oper} {a : Act} {Q : Exit → Act → World → Prop} (hgd : o.guard = none) (s x : Operand) (t : TypeId)
    (ho : o.op = .call { callee := .builtin .append, args := #[s, x], argTypes := #[t, t] })
    (base : Nat) (e : TypeId) (i : TypeInfo) (z : Value) (size bytes : Nat) (ht : P.underlying t = some (.slice e)) (hi : P.info? e = some i) (hz : i.zero = some z)
    (hsize : i.size = size) (hby : i.bytes = bytes) (hzs : z.cells.size = size) (hsz : 0 < size) (v : Value) (n : Nat) (xs : List Value) (hs : a.eval s = v) (hown : w.ownsRow base e size v n xs)
    (ad : Addr) (m c : Nat) (news : List Value) (hx : a.eval x = .slice (some ad) m c) (hl : news.length = m * size) (hnews : ∀ j u, news[j]? = some u → w.cell? (ad.add j) = some u) (h1 : ∀ u ∈ news, u.oneCell' = true)
    (hm : 0 < m) (h63 : n + m ≤ maxLen) (hbytes : (n + m) * bytes ≤ 140737488355328) (hbase : base ≤ w.heap.size)
    (h : ∀ v' w', w'.ownsRow base e size v' (n + m) (xs ++ news) → w.grownBy w' v.ownBlock → At w v v' → wpList P ops Q rest (a.put o.dst v') w') : wpList P ops Q (o :: rest) a w :=
  wpList_plain hgd fun _ hK => wp_append_at s x t ho base e i z size bytes ht hi hz hsize hby hzs hsz v n xs hs hown ad m c news hx hl hnews h1 hm h63 hbytes hbase (fun v' w' h1 h2 h3 => hK _ _ (h v' w' h1 h2 h3))
set_option maxRecDepth 100000 in
/-- rows of unlike types lie apart -/
theorem own_apart {w : World} {b1 b2 : Nat} {T1 T2 : TypeId} {k1 k2 n1 n2 : Nat} {v1 v2 : Value} {x1 x2 : List Value} (h1 : w.ownsRow b1 T1 k1 v1 n1 x1) (h2 : w.ownsRow b2 T2 k2 v2 n2 x2) (hT : T1 ≠ T2) : ∀ j, v1.ownBlock = some j → v2.ownBlock ≠ some j := by
  intro j e1 e2
  rcases h1.2 with ⟨rfl, _⟩ | ⟨g1, c1, u1, rfl, _, hg1, _⟩
  · cases e1
  rcases h2.2 with ⟨rfl, _⟩ | ⟨g2, c2, u2, rfl, _, hg2, _⟩
  · cases e2
  cases e1; cases e2
  rw [hg1] at hg2
  cases hg2
  exact hT rfl
set_option maxRecDepth 100000 in
theorem own_off {w : World} {b1 g : Nat} {T1 T2 : TypeId} {k1 n1 : Nat} {v1 : Value} {x1 : List Value} {cs : Array Value} (h1 : w.ownsRow b1 T1 k1 v1 n1 x1) (h2 : w.heap[g]? = some (.cells cs T2 (0, 0))) (hT : T1 ≠ T2) : v1.ownBlock ≠ some g := by
  intro e1
  rcases h1.2 with ⟨rfl, _⟩ | ⟨g1, c1, u1, rfl, _, hg1, _⟩
  · cases e1
  cases e1
  rw [hg1] at h2
  cases h2
  exact hT rfl
set_option maxRecDepth 100000 in
theorem own_keep {w w' : World} {base : Nat} {T : TypeId} {k n : Nat} {v : Value} {xs : List Value} (h : w.ownsRow base T k v n xs) (hb : ∀ j, v.ownBlock = some j → w'.heap[j]? = w.heap[j]?) : w'.ownsRow base T k v n xs := by
  refine ⟨h.1, ?_⟩
  rcases h.2 with h2 | ⟨g, cap, cur, rfl, hg, hh, r⟩
  · exact .inl h2
  · exact .inr ⟨g, cap, cur, rfl, hg, by rw [hb g rfl]; exact hh, r⟩
set_option maxRecDepth 100000 in
theorem kept_grown {own : Nat → Prop} {w0 w w' : World} {row : Option Nat} (h : Kept own w0 w) (hg : w.grownBy w' row) (hr : ∀ j, row = some j → own j ∨ w0.heap.size ≤ j) : Kept own w0 w' :=
  ⟨hg.os.trans h.os, hg.tape.trans h.tape, hg.output.trans h.output, Nat.le_trans h.size hg.size, fun k hk ho => (hg.block k (Nat.lt_of_lt_of_le hk h.size) (fun e => by rcases hr k e.symm with h1 | h1; exact ho h1; omega)).trans (h.block k hk ho)⟩
end Go.Proofs.Ytbjeeefkbmdmfaa
namespace Go.Proofs.Ytbjeeefkbmdmfaa
open Go.RowKit
set_option linter.unusedVariables false

def orI (o : List Nat) : List Int := o.map fun i : Nat => (i : Int)
set_option maxRecDepth 100000 in
theorem orI_len (o : List Nat) : (orI o).length = o.length := by simp [orI]
section
variable {α : Type} {en : α → List Value} {k : Nat} {w w' : World} {ao : Option Addr} {len cap : Nat} {L : List α}
set_option maxRecDepth 100000 in
theorem Ls.low (h : Ls en k w ao len cap L) {N : Nat} (hb : ∀ p, ao = some p → 0 < len → p.block < N) (hk : ∀ j, j < N → j < w.heap.size → w'.heap[j]? = w.heap[j]?) (hs : w.heap.size ≤ w'.heap.size) : Ls en k w' ao len cap L :=
  ⟨h.len_eq, h.le_cap, h.cap_le, h.nil, fun hp => by
    obtain ⟨b, off, e, hlt, hc⟩ := h.spot hp
    exact ⟨b, off, e, Nat.lt_of_lt_of_le hlt hs, fun i hi j hj => (World.cell?_of_block (w := w) (hk b (hb _ e hp) hlt)).trans (hc i hi j hj)⟩⟩
end
def At2 (w : World) (v v' : Value) : Prop := v'.ownBlock = v.ownBlock ∨ ∃ j, v'.ownBlock = some j ∧ w.heap.size ≤ j
end Go.Proofs.Ytbjeeefkbmdmfaa
namespace Go.Proofs.Ytbjeeefkbmdmfaa
open Go.RowKit
set_option linter.unusedVariables false

/-- a new variable -/
structure NV (T : TypeId) (sz N0 g : Nat) (wr : World) : Prop where
  ge : N0 ≤ g
  row : ∃ cs : Array Value, cs.size = sz ∧ wr.heap[g]? = some (.cells cs T (0, 0))
set_option maxRecDepth 100000 in
theorem NV.lt {T : TypeId} {sz N0 g : Nat} {wr : World} (h : NV T sz N0 g wr) : g < wr.heap.size := by obtain ⟨cs, _, e⟩ := h.row; exact (Array.getElem?_eq_some_iff.1 e).1
set_option maxRecDepth 100000 in
theorem NV.step {T : TypeId} {sz N0 g : Nat} {wr w1 : World} (h : NV T sz N0 g wr) (hb : Below wr.heap.size wr w1) : NV T sz N0 g w1 := by
  have hlt := h.lt
  obtain ⟨cs, hs, e⟩ := h.row
  exact ⟨h.ge, cs, hs, (hb.block g hlt).trans e⟩
set_option maxRecDepth 100000 in
theorem NV.new {T : TypeId} {sz N0 : Nat} {wr : World} {cs : Array Value} (hN : N0 ≤ wr.heap.size) (hs : cs.size = sz) : NV T sz N0 wr.heap.size (wr.alloc (.cells cs T)) := ⟨hN, cs, hs, heap_alloc_new _ _⟩
set_option maxRecDepth 100000 in
theorem NV.there {T : TypeId} {sz N0 g : Nat} {wr : World} (h : NV T sz N0 g wr) {D : Array Value} (hD : D.size = sz) : wr.there g 0 D.size := by
  obtain ⟨cs, hs, e⟩ := h.row
  have := there_row e
  rw [hs, ← hD] at this
  exact this
set_option maxRecDepth 100000 in
theorem NV.put {T : TypeId} {sz N0 g : Nat} {wr : World} (h : NV T sz N0 g wr) {D : Array Value} (hD : D.size = sz) : (wr.setCells g 0 D.toList).heap[g]? = some (.cells D T (0, 0)) := by
  obtain ⟨cs, hs, e⟩ := h.row
  exact heap_stored e (by rw [hs, hD])
set_option maxRecDepth 100000 in
theorem NV.but {T : TypeId} {sz N0 g h : Nat} {wr : World} (k : NV T sz N0 g wr) (hne : g ≠ h) (vs : List Value) : NV T sz N0 g (wr.setCells h 0 vs) := by
  obtain ⟨cs, hs, e⟩ := k.row
  exact ⟨k.ge, cs, hs, (setCells_other hne vs 0).trans e⟩
set_option maxRecDepth 100000 in
theorem nv_but {wr : World} {g h : Nat} {T : TypeId} {D : Array Value} (k : wr.heap[g]? = some (.cells D T (0, 0))) (hne : g ≠ h) (vs : List Value) : (wr.setCells h 0 vs).heap[g]? = some (.cells D T (0, 0)) := (setCells_other hne vs 0).trans k
set_option maxRecDepth 100000 in
theorem nv_range {w w' : World} {b o : Nat} {vs : List Value} (h : w.rangeAt b o vs) (hb : Below w.heap.size w w') (hlt : b < w.heap.size) : w'.rangeAt b o vs := fun j v hj => (hb.cell hlt).trans (h j v hj)
end Go.Proofs.Ytbjeeefkbmdmfaa
namespace Go.Proofs.Ytbjeeefkbmdmfaa
open Go.RowKit
set_option linter.unusedVariables false

/-- what stays when new memory is made -/
def Up (Q : World → Prop) : Prop := ∀ W W', Q W → Below W.heap.size W W' → Q W'
/-- held, and new memory changes it not -/
structure HX (Q : World → Prop) (w W : World) : Prop where
  low : Below w.heap.size w W
  up : Up Q
  q : Q W
set_option maxRecDepth 100000 in
theorem HX.step {Q : World → Prop} {w W W' : World} (h : HX Q w W) (hb : Below W.heap.size W W') : HX Q w W' := ⟨bstep h.low hb, h.up, h.up _ _ h.q hb⟩
set_option maxRecDepth 100000 in
theorem up_row {g : Nat} {o : Obj} : Up (fun W => W.heap[g]? = some o) := fun W W' h hb => (hb.block g (Array.getElem?_eq_some_iff.1 h).1).trans h
set_option maxRecDepth 100000 in
theorem up_size {N : Nat} : Up (fun W => N ≤ W.heap.size) := fun W W' h hb => Nat.le_trans h hb.size
set_option maxRecDepth 100000 in
theorem Up.and {P Q : World → Prop} (h : Up P) (k : Up Q) : Up (fun W => P W ∧ Q W) := fun W W' q hb => ⟨h _ _ q.1 hb, k _ _ q.2 hb⟩
end Go.Proofs.Ytbjeeefkbmdmfaa
namespace Go.Proofs.Ytbjeeefkbmdmfaa
open Go.RowKit
set_option linter.unusedVariables false

set_option maxRecDepth 100000 in
theorem Ls.bv {w : World} {ao : Option Addr} {len cap : Nat} {L : List Bool} (h : Bvs w ao len cap L) (i : Nat) (hi : i < len) : ∃ b off, ao = some ⟨b, off, none⟩ ∧ b < w.heap.size ∧ w.cell? ⟨b, off + i, none⟩ = some (.bool (L.getD i false)) := by
  obtain ⟨b, off, e, hlt, hc⟩ := h.spot (by omega)
  have hi2 : i < L.length := by rw [h.len_eq]; exact hi
  have e1 : L.getD i false = L[i] := by rw [List.getD_eq_getElem?_getD, List.getElem?_eq_getElem hi2]; rfl
  have h1 := hc i hi2 0 (by decide)
  rw [Nat.mul_one, Nat.add_zero] at h1
  exact ⟨b, off, e, hlt, by rw [e1]; exact h1⟩
set_option maxRecDepth 100000 in
theorem bv_cell {w : World} {b off n c : Nat} {L : List Bool} {x : Bool} (h : Bvs w (some ⟨b, off, none⟩) n c L) (i : Nat) (hi : i < n) (hx : L.getD i false = x) : w.cell? ⟨b, off + i, none⟩ = some (.bool x) := by
  obtain ⟨b', off', e, _, hh⟩ := h.bv i hi
  cases e
  rw [hx] at hh
  exact hh
end Go.Proofs.Ytbjeeefkbmdmfaa
