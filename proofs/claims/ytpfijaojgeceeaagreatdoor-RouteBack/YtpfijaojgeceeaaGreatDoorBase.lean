/- What bytes in memory are to these texts: a slice that reads as a list of numbers from 0 to 255; and small facts on it. -/
import Derived.Test.YtpfijaojgeceeaaGreatDoorRows
import Derived.WalkKit
import Derived.WalkSpells
import Derived.WalkLawsBesides
import Derived.Deep.QuietTactic
import Derived.BigQuiet
import Derived.Laws.AppendOwnNone
import Derived.OpenShut
import Derived.Deep.RegionWith
import Derived.Deep.RegionHeld3
import Derived.Deep.MidRow
import Derived.Deep.RegionLaw
namespace Go.Proofs.YtpfijaojgeceeaaGreatDoor
open Go.RowKit
set_option linter.unusedVariables false

set_option maxRecDepth 100000 in
theorem Tryz.info5 : (Tryz.prog.info? 5).map (fun i => (i.zero, i.size, i.bytes)) = some (some (.int .u8 0), 1, 1) := by kernel_rfl

/-- a fact that no step of a walk looks into -/
structure Bx (p : Prop) : Prop where
  out : p
/-- each is a byte -/
def Byt (l : List Int) : Prop := ∀ c ∈ l, 0 ≤ c ∧ c ≤ 255
/-- as cells -/
def bv (l : List Int) : List Value := l.map (Value.int .u8)
set_option maxRecDepth 100000 in
theorem bv_length (l : List Int) : (bv l).length = l.length := by simp [bv]
set_option maxRecDepth 100000 in
theorem bv_append (l m : List Int) : bv (l ++ m) = bv l ++ bv m := by simp [bv]
set_option maxRecDepth 100000 in
theorem bv_one (l : List Int) : ∀ u ∈ bv l, u.oneCell' = true := ints_oneCell _ l
set_option maxRecDepth 100000 in
theorem Byt.nil : Byt [] := by intro c h; cases h
set_option maxRecDepth 100000 in
theorem Byt.append {l m : List Int} (h : Byt l) (k : Byt m) : Byt (l ++ m) := by
  intro c hc; rcases List.mem_append.1 hc with h' | h'
  · exact h c h'
  · exact k c h'
set_option maxRecDepth 100000 in
theorem Byt.cons {c : Int} {m : List Int} (h : 0 ≤ c ∧ c ≤ 255) (k : Byt m) : Byt (c :: m) := by
  intro d hd; rcases List.mem_cons.1 hd with h' | h'
  · rw [h']; exact h
  · exact k d h'
set_option maxRecDepth 100000 in
theorem Byt.take {l : List Int} (h : Byt l) (n : Nat) : Byt (l.take n) := fun c hc => h c (List.mem_of_mem_take hc)
set_option maxRecDepth 100000 in
theorem Byt.getD {l : List Int} (h : Byt l) (i : Nat) : 0 ≤ l.getD i 0 ∧ l.getD i 0 ≤ 255 := by
  by_cases hi : i < l.length
  · rw [List.getD_eq_getElem?_getD, List.getElem?_eq_getElem hi]; exact h _ (List.getElem_mem hi)
  · rw [List.getD_eq_getElem?_getD, List.getElem?_eq_none (by omega)]; decide

/-- the slice value v reads as the bytes l in the world w -/
structure Bts (w : World) (ao : Option Addr) (len cap : Nat) (l : List Int) : Prop where
  len_eq : l.length = len
  byt : Byt l
  le_cap : len ≤ cap
  cap_le : cap ≤ maxLen
  nil : ao = none → cap = 0
  spot : 0 < len → ∃ b off, ao = some ⟨b, off, none⟩ ∧ b < w.heap.size ∧ ∀ i, i < len → w.cell? ⟨b, off + i, none⟩ = some (.int .u8 (l.getD i 0))

set_option maxRecDepth 100000 in
theorem Bts.below {w w' : World} {ao : Option Addr} {len cap : Nat} {l : List Int} (h : Bts w ao len cap l) (hb : Below w.heap.size w w') : Bts w' ao len cap l :=
  ⟨h.len_eq, h.byt, h.le_cap, h.cap_le, h.nil, fun hp => by
    obtain ⟨b, off, e, hlt, hc⟩ := h.spot hp
    exact ⟨b, off, e, Nat.lt_of_lt_of_le hlt hb.size, fun i hi => (hb.cell hlt).trans (hc i hi)⟩⟩
set_option maxRecDepth 100000 in
theorem Bts.drewN {w : World} {ao : Option Addr} {len cap : Nat} {l : List Int} (h : Bts w ao len cap l) (n : Nat) : Bts (w.drewN n) ao len cap l :=
  ⟨h.len_eq, h.byt, h.le_cap, h.cap_le, h.nil, h.spot⟩
set_option maxRecDepth 100000 in
theorem below_drewN {B : Nat} {a w : World} (h : Below B a w) (n : Nat) : Below B a (w.drewN n) := ⟨h.os, h.tape, h.output, h.size, h.block⟩

set_option maxRecDepth 100000 in
theorem bstep {a b c : World} (h : Below a.heap.size a b) (k : Below b.heap.size b c) : Below a.heap.size a c := h.trans (k.mono h.size)
set_option maxRecDepth 100000 in
theorem Bts.below' {w w1 w' : World} {ao : Option Addr} {len cap : Nat} {l : List Int} (h : Bts w ao len cap l) (hb : Below w1.heap.size w1 w') (hs : w1.heap = w.heap) : Bts w' ao len cap l :=
  ⟨h.len_eq, h.byt, h.le_cap, h.cap_le, h.nil, fun hp => by
    obtain ⟨b, off, e, hlt, hc⟩ := h.spot hp
    have hlt' : b < w1.heap.size := by rw [hs]; exact hlt
    refine ⟨b, off, e, Nat.lt_of_lt_of_le hlt' hb.size, fun i hi => (hb.cell hlt').trans ?_⟩
    rw [← hc i hi]; exact World.cell?_of_block (by rw [hs])⟩
set_option maxRecDepth 100000 in
theorem Bts.list {w : World} {ao : Option Addr} {len cap : Nat} {l l' : List Int} (h : Bts w ao len cap l) (e : l = l') : Bts w ao len cap l' := by rw [← e]; exact h
set_option maxRecDepth 100000 in
/-- an append to an own row, inside a region that draws its order -/
theorem step_append_own {P : Program} {w : World} {ops : Array Oper} {o : Oper} {a : Act} {K : Act → World → Prop} {Q : Exit → Act → World → Prop} {E : Prop} (hgd : o.guard = none) (s x : Operand) (t : TypeId)
    (ho : o.op = .call { callee := .builtin .append, args := #[s, x], argTypes := #[t, t] })
    (base : Nat) (e : TypeId) (i : TypeInfo) (z : Value) (size bytes : Nat) (ht : P.underlying t = some (.slice e)) (hi : P.info? e = some i) (hz : i.zero = some z)
    (hsize : i.size = size) (hby : i.bytes = bytes) (hzs : z.cells.size = size) (hsz : 0 < size)
    (v : Value) (n : Nat) (xs : List Value) (hs : a.eval s = v) (hown : w.ownsRow base e size v n xs)
    (ad : Addr) (m c : Nat) (news : List Value) (hx : a.eval x = .slice (some ad) m c) (hl : news.length = m * size) (hnews : ∀ j u, news[j]? = some u → w.cell? (ad.add j) = some u) (h1 : ∀ u ∈ news, u.oneCell' = true)
    (h63 : n + m ≤ maxLen) (hbytes : (n + m) * bytes ≤ 140737488355328) (hbase : base ≤ w.heap.size)
    (h : ∀ v' w', w'.ownsRow base e size v' (n + m) (xs ++ news) → w.grownBy w' v.ownBlock → K (a.put o.dst v') w') :
    if Region.wanted o (yielded ops a.tmps) = true then Oper.wp P o a w K Q else E := by
  have hw : Region.wanted o (yielded ops a.tmps) = true := by simp [Region.wanted, hgd]
  rw [if_pos hw]
  exact wp_append_own w s x t ho base e i z size bytes ht hi hz hsize hby hzs hsz v n xs hs hown ad m c news hx hl hnews h1 h63 hbytes hbase (fun v' w' h2 h3 _ => h v' w' h2 h3)
set_option maxRecDepth 100000 in
/-- an operation that the kernel runs -/
theorem wpList_run {P : Program} {ops : Array Oper} {rest : List Oper} {o : Oper} {a : Act} {w : World} {Q : Exit → Act → World → Prop} (hgd : o.guard = none) (v : Value) (w' : World)
    (hrun : (execOp a.eval o).run P w = .ok (.value v) w') (h : wpList P ops Q rest (a.put o.dst v) w') : wpList P ops Q (o :: rest) a w :=
  wpList_plain hgd fun K hK => by unfold Oper.wp; rw [hrun]; exact hK _ _ h
set_option maxRecDepth 100000 in
/-- a block that was just laid: its cells are there, may be written, and are what is stored -/
theorem there_new (w : World) (cs : Array Value) (t : TypeId) : (w.alloc (.cells cs t)).there w.heap.size 0 cs.size := by
  intro j hj
  have hg := heap_alloc_new w (.cells cs t)
  rw [Nat.zero_add]
  exact ⟨by rw [cell_of_row _ _ j cs t (0, 0) hg]; simp [hj], frozen_of_row _ _ j cs t hg⟩
set_option maxRecDepth 100000 in
theorem below_setCells {B : Nat} {a w : World} (h : Below B a w) (b : Nat) (hb : B ≤ b) : ∀ (vs : List Value) (o : Nat), Below B a (w.setCells b o vs) := by
  intro vs
  induction vs generalizing w with
  | nil => intro o; exact h
  | cons v r ih => intro o; exact ih (h.setCell (p := ⟨b, o, none⟩) hb v) (o + 1)
set_option maxRecDepth 100000 in
theorem cell_stored {w : World} {b n : Nat} {vs : List Value} (ht : w.there b 0 n) (hn : vs.length = n) (j : Nat) (hj : j < n) : (w.setCells b 0 vs).cell? ⟨b, j, none⟩ = vs[j]? := by
  have h := World.cell?_setCells_in b vs 0 w (fun i hi => (ht i (by omega)).1) j (by omega)
  rw [Nat.zero_add] at h
  rw [h, List.getElem?_eq_getElem (by omega)]
set_option maxRecDepth 100000 in
/-- a row that is stored whole is what was stored -/
theorem heap_setCells (b : Nat) (t : TypeId) : ∀ (vs : List Value) (o : Nat) (w : World) (cs : Array Value), o + vs.length ≤ cs.size → w.heap[b]? = some (.cells cs t (0, 0)) →
    ∃ cs' : Array Value, (w.setCells b o vs).heap[b]? = some (.cells cs' t (0, 0)) ∧ cs'.size = cs.size ∧ ∀ j, cs'[j]? = if o ≤ j ∧ j < o + vs.length then vs[j - o]? else cs[j]? := by
  intro vs
  induction vs with
  | nil => intro o w cs _ h; exact ⟨cs, h, rfl, fun j => by rw [if_neg (by rw [List.length_nil]; omega)]⟩
  | cons v r ih =>
    intro o w cs hl h
    rw [List.length_cons] at hl
    have h1 := heap_setCell_same w b o cs t v h
    obtain ⟨cs', e1, e2, e3⟩ := ih (o + 1) (w.setCell ⟨b, o, none⟩ v) (cs.setIfInBounds o v) (by simp; omega) h1
    refine ⟨cs', e1, by rw [e2]; simp, fun j => ?_⟩
    rw [e3 j, List.length_cons]
    by_cases hj : j = o
    · subst hj
      rw [if_neg (by omega), if_pos (by omega), Array.getElem?_setIfInBounds, if_pos rfl, if_pos (by omega), Nat.sub_self]; rfl
    · by_cases hj2 : o + 1 ≤ j ∧ j < o + 1 + r.length
      · rw [if_pos hj2, if_pos (by omega), show j - o = j - (o + 1) + 1 from by omega]; simp
      · rw [if_neg hj2, if_neg (by omega)]
        simp [Ne.symm hj]
set_option maxRecDepth 100000 in
theorem heap_stored {w : World} {b : Nat} {t : TypeId} {cs vs : Array Value} (h : w.heap[b]? = some (.cells cs t (0, 0))) (hs : vs.size = cs.size) : (w.setCells b 0 vs.toList).heap[b]? = some (.cells vs t (0, 0)) := by
  obtain ⟨cs', e1, e2, e3⟩ := heap_setCells b t vs.toList 0 w cs (by simp; omega) h
  rw [e1]
  have : cs' = vs := by
    apply Array.ext_getElem?
    intro j
    rw [e3 j]
    by_cases hj : j < vs.size
    · rw [if_pos (by simp; omega)]; simp
    · rw [if_neg (by simp; omega), Array.getElem?_eq_none (by omega), Array.getElem?_eq_none (by omega)]
  rw [this]
set_option maxRecDepth 100000 in
theorem there_row {w : World} {b : Nat} {t : TypeId} {cs : Array Value} (h : w.heap[b]? = some (.cells cs t (0, 0))) : w.there b 0 cs.size := by
  intro j hj
  rw [Nat.zero_add]
  exact ⟨by rw [cell_of_row _ _ j cs t (0, 0) h]; simp [hj], frozen_of_row _ _ j cs t h⟩
/-- a slice's length, for measures -/
def lenOf : Value → Nat | .slice _ n _ => n | _ => 0
set_option maxRecDepth 100000 in
theorem drew_close (w : World) (q r : Nat) : ∃ s, (w.drewN q).drewN r = w.drewN s := ⟨q + r, by simp⟩
set_option maxRecDepth 100000 in
theorem ret_bool {a b : Bool} (h : a = b) : Ending.returned (.bool a) = .returned (.bool b) := by rw [h]
set_option maxRecDepth 100000 in
theorem ret_int {k : IntKind} {a b : Int} (h : a = b) : Ending.returned (.int k a) = .returned (.int k b) := by rw [h]

set_option maxRecDepth 100000 in
/-- a slice of bytes that came in (the shell's own words for it) reads as its elements -/
theorem Bts.of_row {w : World} {a : Option Addr} {len cap : Nat} {zs : List Int}
    (h : (a = none ∧ len = 0 ∧ cap = 0 ∧ zs = []) ∨ ∃ x, a = some x ∧ len ≤ cap ∧ cap ≤ maxLen ∧ zs.length = cap ∧ (∀ i, i < zs.length → w.cell? (x.add i) = some (.int .u8 (zs.getD i 0))) ∧ ∀ n ∈ zs, (Lit.int .u8 n).wf = true) :
    Bts w a len cap (zs.take len) := by
  rcases h with ⟨rfl, rfl, rfl, rfl⟩ | ⟨x, rfl, hl, hm, hz, hcell, hwz⟩
  · exact ⟨rfl, by intro c hc; simp at hc, Nat.le_refl _, Nat.zero_le _, fun _ => rfl, fun hp => absurd hp (Nat.lt_irrefl _)⟩
  · refine ⟨by rw [List.length_take]; omega, fun c hc => bounds_u8 (hwz c (List.mem_of_mem_take hc)), hl, hm, (fun hh => by cases hh), fun hp => ?_⟩
    obtain ⟨b, off, sp⟩ := x
    have h0 := hcell 0 (by omega)
    have hsp : sp = none := by simpa [Addr.add] using World.cell?_spot h0
    subst hsp
    refine ⟨b, off, rfl, ?_, fun i hi => ?_⟩
    · have := World.block_lt_of_cell? w _ h0; simpa [Addr.add] using this
    · have h1 := hcell i (by omega)
      rw [Addr.add_lit] at h1
      rw [h1, List.getD_eq_getElem?_getD, List.getD_eq_getElem?_getD, List.getElem?_take, if_pos hi]

set_option maxRecDepth 100000 in
/-- what is owned reads as the list -/
theorem Bts.of_owns {w : World} {base n : Nat} {v : Value} {l : List Int} (h : w.ownsRow base 5 1 v n (bv l)) (hl : Byt l) :
    ∃ ao cap, v = .slice ao n cap ∧ Bts w ao n cap l := by
  have hlen : l.length = n := by have := h.1; rw [bv_length] at this; omega
  rcases h.2 with ⟨rfl, hn⟩ | ⟨g, cap, cur, rfl, hb, hg, hnc, hcm, hcs, ht⟩
  · subst hn
    exact ⟨none, 0, rfl, hlen, hl, Nat.le_refl _, Nat.zero_le _, fun _ => rfl, fun hp => absurd hp (Nat.lt_irrefl _)⟩
  · refine ⟨some ⟨g, 0, none⟩, cap, rfl, hlen, hl, hnc, hcm, (fun hh => by cases hh), fun _ => ⟨g, 0, rfl, (Array.getElem?_eq_some_iff.1 hg).1, fun i hi => ?_⟩⟩
    have hc := h.cellAt i (by omega)
    rw [Nat.zero_add, hc, List.getD_eq_getElem?_getD, List.getElem?_eq_getElem (by omega : i < l.length)]
    simp [bv, List.getElem?_eq_getElem (by omega : i < l.length)]

set_option maxRecDepth 100000 in
theorem owns_cell {w : World} {base : Nat} {e : TypeId} {g n cap : Nat} {xs : List Value} (h : w.ownsRow base e 1 (.slice (some ⟨g, 0, none⟩) n cap) n xs) (j : Nat) (hj : j < n) :
    ∃ v, w.cell? ⟨g, j, none⟩ = some v := by
  rw [h.cellAt j (by omega)]
  exact ⟨_, List.getElem?_eq_getElem (by rw [h.1]; omega)⟩

set_option maxRecDepth 100000 in
theorem owns_form {w : World} {base : Nat} {e : TypeId} {size n : Nat} {v : Value} {xs : List Value} (h : w.ownsRow base e size v n xs) (hn : 1 ≤ n) : ∃ g cap, v = .slice (some ⟨g, 0, none⟩) n cap ∧ base ≤ g ∧ g < w.heap.size := by
  rcases h.2 with ⟨_, h0⟩ | ⟨g, cap, cur, hv, hg, hh, _⟩
  · omega
  · exact ⟨g, cap, hv, hg, (Array.getElem?_eq_some_iff.1 hh).1⟩
set_option maxRecDepth 100000 in
/-- ownership goes up to a lower base -/
theorem owns_base {w : World} {base base' : Nat} {e : TypeId} {size n : Nat} {v : Value} {xs : List Value} (h : w.ownsRow base e size v n xs) (hb : base' ≤ base) : w.ownsRow base' e size v n xs := by
  refine ⟨h.1, ?_⟩
  rcases h.2 with h2 | ⟨g, cap, cur, hv, hg, r⟩
  · exact .inl h2
  · exact .inr ⟨g, cap, cur, hv, Nat.le_trans hb hg, r⟩
set_option maxRecDepth 100000 in
/-- what is owned stays while nothing below the heap's size turns -/
theorem owns_below {w w' : World} {base : Nat} {e : TypeId} {size n : Nat} {v : Value} {xs : List Value} (h : w.ownsRow base e size v n xs) (hb : Below w.heap.size w w') : w'.ownsRow base e size v n xs := by
  refine ⟨h.1, ?_⟩
  rcases h.2 with h2 | ⟨g, cap, cur, hv, hg, hh, r⟩
  · exact .inl h2
  · exact .inr ⟨g, cap, cur, hv, hg, by rw [hb.block g (Array.getElem?_eq_some_iff.1 hh).1]; exact hh, r⟩
set_option maxRecDepth 100000 in
theorem owns_drewN {w : World} {base : Nat} {e : TypeId} {size n : Nat} {v : Value} {xs : List Value} (h : w.ownsRow base e size v n xs) (q : Nat) : (w.drewN q).ownsRow base e size v n xs := h

set_option maxRecDepth 100000 in
theorem owns_new {w w' : World} {base : Nat} {e : TypeId} {size n : Nat} {v : Value} {xs : List Value} (h : w.ownsRow base e size v n xs) (hh : w'.heap = w.heap) (o : Obj) : (w'.alloc o).ownsRow base e size v n xs := by
  have h' : w'.ownsRow base e size v n xs := by unfold World.ownsRow at *; rw [hh]; exact h
  exact h'.alloc o
set_option maxRecDepth 100000 in
theorem take_succ_getD (l : List Int) (k : Nat) (h : k < l.length) : l.take (k + 1) = l.take k ++ [l.getD k 0] := by
  rw [List.take_succ_eq_append_getElem h, List.getD_eq_getElem?_getD, List.getElem?_eq_getElem h]; rfl

set_option maxRecDepth 100000 in
theorem getD_take_drop (l : List Int) (o n i : Nat) (h : i < n) : ((l.drop o).take n).getD i 0 = l.getD (o + i) 0 := by
  rw [List.getD_eq_getElem?_getD, List.getElem?_take, if_pos h, List.getElem?_drop, ← List.getD_eq_getElem?_getD]

end Go.Proofs.YtpfijaojgeceeaaGreatDoor
