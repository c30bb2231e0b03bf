/- What bytes in memory are to these texts: a slice that reads as a list of numbers from 0 to 255; and small facts on it. What Put answers: bytes of memory of its own. What the document's Put answers. What is reckoned by SHA-256, on lists of numbers: no walk. What Get and the document's Get answer. What the document's three, key and First answer. What the document's Cut and Copy answer. What mix answers: a state behind all rounds, the package's table holding the chapter's numbers k. A short number's bytes. No walk. What Var and ReadVar answer. Events, histories, operations. No walk. Numbers folded and unfolded. No walk. A history's text, written and read. No walk. Entries as bytes. No walk. A new variable of whatever type: so many cells. Which operations a history has. No walk. Instructions, and how they are gone through. No walk. Things read one behind the other, whatever they are. No walk. Code's text, there and back. No walk. One operation done by code. No walk. Whether an order of operations is one. No walk. A search that remembers where it was. No walk. The search, try by try. No walk. A search through orders of operations: it fits just if there is an order. No walk. A search in pieces, and what it tells. No walk. CRC-32: the register, bit by bit; that at most 32 bits in a row that are turned are found: no walk. What frames are, what reading answers; there and back; that a frame of which at most 32 bits in a row are turned is not read: no walk. A disk, as the mathematics has it: sectors, open writes, what each call makes of them. No walk. A list of one element that has many cells, written out. No walk. The search try by try, as a stack of frames. No walk. -/
import Derived.Test.YtipakjenggeflaaGreatDoorVarMath
import Derived.Test.YtipakjenggeflaaGreatDoorRows
import Derived.WalkKit
import Derived.WalkSpells
import Derived.WalkLawsBesides
import Derived.Deep.QuietTactic
import Derived.BigQuiet
import Derived.Laws.AppendOwnNone
import Derived.OpenShut
import Derived.Deep.RegionWith
import Derived.Deep.RegionHeld3
import Derived.Deep.MidRow
import Derived.Deep.RegionLaw
import Derived.Laws.Tables
namespace Go.Proofs.YtipakjenggeflaaGreatDoor
open Go.RowKit
set_option linter.unusedVariables false

set_option maxRecDepth 100000 in
theorem Tryz.info5 : (Tryz.prog.info? 5).map (fun i => (i.zero, i.size, i.bytes)) = some (some (.int .u8 0), 1, 1) := by kernel_rfl
/-- a fact that no step of a walk looks into -/
structure Bx (p : Prop) : Prop where
  out : p
/-- each is a byte -/
def Byt (l : List Int) : Prop := ∀ c ∈ l, 0 ≤ c ∧ c ≤ 255
/-- as cells -/
def bv (l : List Int) : List Value := l.map (Value.int .u8)
set_option maxRecDepth 100000 in
theorem bv_length (l : List Int) : (bv l).length = l.length := by simp [bv]
set_option maxRecDepth 100000 in
theorem bv_append (l m : List Int) : bv (l ++ m) = bv l ++ bv m := by simp [bv]
set_option maxRecDepth 100000 in
theorem bv_one (l : List Int) : ∀ u ∈ bv l, u.oneCell' = true := ints_oneCell _ l
set_option maxRecDepth 100000 in
theorem Byt.nil : Byt [] := by intro c h; cases h
set_option maxRecDepth 100000 in
theorem Byt.append {l m : List Int} (h : Byt l) (k : Byt m) : Byt (l ++ m) := by
  intro c hc; rcases List.mem_append.1 hc with h' | h'
  · exact h c h'
  · exact k c h'
set_option maxRecDepth 100000 in
theorem Byt.cons {c : Int} {m : List Int} (h : 0 ≤ c ∧ c ≤ 255) (k : Byt m) : Byt (c :: m) := by
  intro d hd; rcases List.mem_cons.1 hd with h' | h'
  · rw [h']; exact h
  · exact k d h'
set_option maxRecDepth 100000 in
theorem Byt.take {l : List Int} (h : Byt l) (n : Nat) : Byt (l.take n) := fun c hc => h c (List.mem_of_mem_take hc)
set_option maxRecDepth 100000 in
theorem Byt.getD {l : List Int} (h : Byt l) (i : Nat) : 0 ≤ l.getD i 0 ∧ l.getD i 0 ≤ 255 := by
  by_cases hi : i < l.length
  · rw [List.getD_eq_getElem?_getD, List.getElem?_eq_getElem hi]; exact h _ (List.getElem_mem hi)
  · rw [List.getD_eq_getElem?_getD, List.getElem?_eq_none (by omega)]; decide
/-- the slice value v reads as the bytes l in the world w -/
structure Bts (w : World) (ao : Option Addr) (len cap : Nat) (l : List Int) : Prop where
  len_eq : l.length = len
  byt : Byt l
  le_cap : len ≤ cap
  cap_le : cap ≤ maxLen
  nil : ao = none → cap = 0
  spot : 0 < len → ∃ b off, ao = some ⟨b, off, none⟩ ∧ b < w.heap.size ∧ ∀ i, i < len → w.cell? ⟨b, off + i, none⟩ = some (.int .u8 (l.getD i 0))
set_option maxRecDepth 100000 in
theorem Bts.below {w w' : World} {ao : Option Addr} {len cap : Nat} {l : List Int} (h : Bts w ao len cap l) (hb : Below w.heap.size w w') : Bts w' ao len cap l :=
  ⟨h.len_eq, h.byt, h.le_cap, h.cap_le, h.nil, fun hp => by
    obtain ⟨b, off, e, hlt, hc⟩ := h.spot hp
    exact ⟨b, off, e, Nat.lt_of_lt_of_le hlt hb.size, fun i hi => (hb.cell hlt).trans (hc i hi)⟩⟩
set_option maxRecDepth 100000 in
theorem Bts.drewN {w : World} {ao : Option Addr} {len cap : Nat} {l : List Int} (h : Bts w ao len cap l) (n : Nat) : Bts (w.drewN n) ao len cap l :=
  ⟨h.len_eq, h.byt, h.le_cap, h.cap_le, h.nil, h.spot⟩
set_option maxRecDepth 100000 in
theorem below_drewN {B : Nat} {a w : World} (h : Below B a w) (n : Nat) : Below B a (w.drewN n) := ⟨h.os, h.tape, h.output, h.size, h.block⟩
set_option maxRecDepth 100000 in
theorem bstep {a b c : World} (h : Below a.heap.size a b) (k : Below b.heap.size b c) : Below a.heap.size a c := h.trans (k.mono h.size)
set_option maxRecDepth 100000 in
theorem Bts.list {w : World} {ao : Option Addr} {len cap : Nat} {l l' : List Int} (h : Bts w ao len cap l) (e : l = l') : Bts w ao len cap l' := by rw [← e]; exact h
set_option maxRecDepth 100000 in
/-- an operation that the kernel runs -/
theorem wpList_run {P : Program} {ops : Array Oper} {rest : List Oper} {o : Oper} {a : Act} {w : World} {Q : Exit → Act → World → Prop} (hgd : o.guard = none) (v : Value) (w' : World)
    (hrun : (execOp a.eval o).run P w = .ok (.value v) w') (h : wpList P ops Q rest (a.put o.dst v) w') : wpList P ops Q (o :: rest) a w :=
  wpList_plain hgd fun K hK => by unfold Oper.wp; rw [hrun]; exact hK _ _ h
set_option maxRecDepth 100000 in
theorem below_setCells {B : Nat} {a w : World} (h : Below B a w) (b : Nat) (hb : B ≤ b) : ∀ (vs : List Value) (o : Nat), Below B a (w.setCells b o vs) := by
  intro vs
  induction vs generalizing w with
  | nil => intro o; exact h
  | cons v r ih => intro o; exact ih (h.setCell (p := ⟨b, o, none⟩) hb v) (o + 1)
set_option maxRecDepth 100000 in
/-- a row that is stored whole is what was stored -/
theorem heap_setCells (b : Nat) (t : TypeId) : ∀ (vs : List Value) (o : Nat) (w : World) (cs : Array Value), o + vs.length ≤ cs.size → w.heap[b]? = some (.cells cs t (0, 0)) →
    ∃ cs' : Array Value, (w.setCells b o vs).heap[b]? = some (.cells cs' t (0, 0)) ∧ cs'.size = cs.size ∧ ∀ j, cs'[j]? = if o ≤ j ∧ j < o + vs.length then vs[j - o]? else cs[j]? := by
  intro vs
  induction vs with
  | nil => intro o w cs _ h; exact ⟨cs, h, rfl, fun j => by rw [if_neg (by rw [List.length_nil]; omega)]⟩
  | cons v r ih =>
    intro o w cs hl h
    rw [List.length_cons] at hl
    have h1 := heap_setCell_same w b o cs t v h
    obtain ⟨cs', e1, e2, e3⟩ := ih (o + 1) (w.setCell ⟨b, o, none⟩ v) (cs.setIfInBounds o v) (by simp; omega) h1
    refine ⟨cs', e1, by rw [e2]; simp, fun j => ?_⟩
    rw [e3 j, List.length_cons]
    by_cases hj : j = o
    · subst hj
      rw [if_neg (by omega), if_pos (by omega), Array.getElem?_setIfInBounds, if_pos rfl, if_pos (by omega), Nat.sub_self]; rfl
    · by_cases hj2 : o + 1 ≤ j ∧ j < o + 1 + r.length
      · rw [if_pos hj2, if_pos (by omega), show j - o = j - (o + 1) + 1 from by omega]; simp
      · rw [if_neg hj2, if_neg (by omega)]
        simp [Ne.symm hj]
set_option maxRecDepth 100000 in
theorem heap_stored {w : World} {b : Nat} {t : TypeId} {cs vs : Array Value} (h : w.heap[b]? = some (.cells cs t (0, 0))) (hs : vs.size = cs.size) : (w.setCells b 0 vs.toList).heap[b]? = some (.cells vs t (0, 0)) := by
  obtain ⟨cs', e1, e2, e3⟩ := heap_setCells b t vs.toList 0 w cs (by simp; omega) h
  rw [e1]
  have : cs' = vs := by
    apply Array.ext_getElem?
    intro j
    rw [e3 j]
    by_cases hj : j < vs.size
    · rw [if_pos (by simp; omega)]; simp
    · rw [if_neg (by simp; omega), Array.getElem?_eq_none (by omega), Array.getElem?_eq_none (by omega)]
  rw [this]
set_option maxRecDepth 100000 in
theorem there_row {w : World} {b : Nat} {t : TypeId} {cs : Array Value} (h : w.heap[b]? = some (.cells cs t (0, 0))) : w.there b 0 cs.size := by
  intro j hj
  rw [Nat.zero_add]
  exact ⟨by rw [cell_of_row _ _ j cs t (0, 0) h]; simp [hj], frozen_of_row _ _ j cs t h⟩
set_option maxRecDepth 100000 in
theorem ret_bool {a b : Bool} (h : a = b) : Ending.returned (.bool a) = .returned (.bool b) := by rw [h]
set_option maxRecDepth 100000 in
theorem ret_int {k : IntKind} {a b : Int} (h : a = b) : Ending.returned (.int k a) = .returned (.int k b) := by rw [h]
set_option maxRecDepth 100000 in
/-- a slice of bytes that came in (the shell's own words for it) reads as its elements -/
theorem Bts.of_row {w : World} {a : Option Addr} {len cap : Nat} {zs : List Int}
    (h : (a = none ∧ len = 0 ∧ cap = 0 ∧ zs = []) ∨ ∃ x, a = some x ∧ len ≤ cap ∧ cap ≤ maxLen ∧ zs.length = cap ∧ (∀ i, i < zs.length → w.cell? (x.add i) = some (.int .u8 (zs.getD i 0))) ∧ ∀ n ∈ zs, (Lit.int .u8 n).wf = true) :
    Bts w a len cap (zs.take len) := by
  rcases h with ⟨rfl, rfl, rfl, rfl⟩ | ⟨x, rfl, hl, hm, hz, hcell, hwz⟩
  · exact ⟨rfl, by intro c hc; simp at hc, Nat.le_refl _, Nat.zero_le _, fun _ => rfl, fun hp => absurd hp (Nat.lt_irrefl _)⟩
  · refine ⟨by rw [List.length_take]; omega, fun c hc => bounds_u8 (hwz c (List.mem_of_mem_take hc)), hl, hm, (fun hh => by cases hh), fun hp => ?_⟩
    obtain ⟨b, off, sp⟩ := x
    have h0 := hcell 0 (by omega)
    have hsp : sp = none := by simpa [Addr.add] using World.cell?_spot h0
    subst hsp
    refine ⟨b, off, rfl, ?_, fun i hi => ?_⟩
    · have := World.block_lt_of_cell? w _ h0; simpa [Addr.add] using this
    · have h1 := hcell i (by omega)
      rw [Addr.add_lit] at h1
      rw [h1, List.getD_eq_getElem?_getD, List.getD_eq_getElem?_getD, List.getElem?_take, if_pos hi]
set_option maxRecDepth 100000 in
/-- what is owned reads as the list -/
theorem Bts.of_owns {w : World} {base n : Nat} {v : Value} {l : List Int} (h : w.ownsRow base 5 1 v n (bv l)) (hl : Byt l) :
    ∃ ao cap, v = .slice ao n cap ∧ Bts w ao n cap l := by
  have hlen : l.length = n := by have := h.1; rw [bv_length] at this; omega
  rcases h.2 with ⟨rfl, hn⟩ | ⟨g, cap, cur, rfl, hb, hg, hnc, hcm, hcs, ht⟩
  · subst hn
    exact ⟨none, 0, rfl, hlen, hl, Nat.le_refl _, Nat.zero_le _, fun _ => rfl, fun hp => absurd hp (Nat.lt_irrefl _)⟩
  · refine ⟨some ⟨g, 0, none⟩, cap, rfl, hlen, hl, hnc, hcm, (fun hh => by cases hh), fun _ => ⟨g, 0, rfl, (Array.getElem?_eq_some_iff.1 hg).1, fun i hi => ?_⟩⟩
    have hc := h.cellAt i (by omega)
    rw [Nat.zero_add, hc, List.getD_eq_getElem?_getD, List.getElem?_eq_getElem (by omega : i < l.length)]
    simp [bv, List.getElem?_eq_getElem (by omega : i < l.length)]
set_option maxRecDepth 100000 in
theorem owns_cell {w : World} {base : Nat} {e : TypeId} {g n cap : Nat} {xs : List Value} (h : w.ownsRow base e 1 (.slice (some ⟨g, 0, none⟩) n cap) n xs) (j : Nat) (hj : j < n) :
    ∃ v, w.cell? ⟨g, j, none⟩ = some v := by
  rw [h.cellAt j (by omega)]
  exact ⟨_, List.getElem?_eq_getElem (by rw [h.1]; omega)⟩
set_option maxRecDepth 100000 in
theorem owns_form {w : World} {base : Nat} {e : TypeId} {size n : Nat} {v : Value} {xs : List Value} (h : w.ownsRow base e size v n xs) (hn : 1 ≤ n) : ∃ g cap, v = .slice (some ⟨g, 0, none⟩) n cap ∧ base ≤ g ∧ g < w.heap.size := by
  rcases h.2 with ⟨_, h0⟩ | ⟨g, cap, cur, hv, hg, hh, _⟩
  · omega
  · exact ⟨g, cap, hv, hg, (Array.getElem?_eq_some_iff.1 hh).1⟩
set_option maxRecDepth 100000 in
/-- ownership goes up to a lower base -/
theorem owns_base {w : World} {base base' : Nat} {e : TypeId} {size n : Nat} {v : Value} {xs : List Value} (h : w.ownsRow base e size v n xs) (hb : base' ≤ base) : w.ownsRow base' e size v n xs := by
  refine ⟨h.1, ?_⟩
  rcases h.2 with h2 | ⟨g, cap, cur, hv, hg, r⟩
  · exact .inl h2
  · exact .inr ⟨g, cap, cur, hv, Nat.le_trans hb hg, r⟩
set_option maxRecDepth 100000 in
/-- what is owned stays while nothing below the heap's size turns -/
theorem owns_below {w w' : World} {base : Nat} {e : TypeId} {size n : Nat} {v : Value} {xs : List Value} (h : w.ownsRow base e size v n xs) (hb : Below w.heap.size w w') : w'.ownsRow base e size v n xs := by
  refine ⟨h.1, ?_⟩
  rcases h.2 with h2 | ⟨g, cap, cur, hv, hg, hh, r⟩
  · exact .inl h2
  · exact .inr ⟨g, cap, cur, hv, hg, by rw [hb.block g (Array.getElem?_eq_some_iff.1 hh).1]; exact hh, r⟩
set_option maxRecDepth 100000 in
theorem owns_drewN {w : World} {base : Nat} {e : TypeId} {size n : Nat} {v : Value} {xs : List Value} (h : w.ownsRow base e size v n xs) (q : Nat) : (w.drewN q).ownsRow base e size v n xs := h
set_option maxRecDepth 100000 in
theorem take_succ_getD (l : List Int) (k : Nat) (h : k < l.length) : l.take (k + 1) = l.take k ++ [l.getD k 0] := by
  rw [List.take_succ_eq_append_getElem h, List.getD_eq_getElem?_getD, List.getElem?_eq_getElem h]; rfl
set_option maxRecDepth 100000 in
theorem getD_take_drop (l : List Int) (o n i : Nat) (h : i < n) : ((l.drop o).take n).getD i 0 = l.getD (o + i) 0 := by
  rw [List.getD_eq_getElem?_getD, List.getElem?_take, if_pos h, List.getElem?_drop, ← List.getD_eq_getElem?_getD]
end Go.Proofs.YtipakjenggeflaaGreatDoor
namespace Go.Proofs.YtipakjenggeflaaGreatDoor
open Go.RowKit
set_option linter.unusedVariables false

/-- x without its k lowest bytes -/
def sh (x : Int) (k : Nat) : Int := x / 256 ^ k
/-- the n lowest bytes of x, the highest first -/
def putL (x : Int) : Nat → List Int
  | 0 => []
  | n + 1 => sh x n % 256 :: putL x n
set_option maxRecDepth 100000 in
theorem sh_zero (x : Int) : sh x 0 = x := by simp [sh]
set_option maxRecDepth 100000 in
theorem sh_succ (x : Int) (k : Nat) : sh x (k + 1) = sh x k / 256 := by
  unfold sh
  rw [Int.pow_succ, Int.ediv_ediv_of_nonneg (Int.le_of_lt (Int.pow_pos (by decide)))]
set_option maxRecDepth 100000 in
theorem sh_bd (x : Int) (k : Nat) (h0 : 0 ≤ x) (h1 : x ≤ 18446744073709551615) : 0 ≤ sh x k ∧ sh x k ≤ 18446744073709551615 := by
  induction k with
  | zero => rw [sh_zero]; exact ⟨h0, h1⟩
  | succ k ih => rw [sh_succ]; omega
set_option maxRecDepth 100000 in
theorem putL_length (x : Int) (n : Nat) : (putL x n).length = n := by
  induction n with
  | zero => rfl
  | succ n ih => simp [putL, ih]
/-- the row behind k rounds of Put -/
def putAt (x : Int) (n k : Nat) : List Value := List.replicate (n - k) (Value.int .u8 0) ++ bv (putL x k)
set_option maxRecDepth 100000 in
theorem putAt_zero (x : Int) (n : Nat) : putAt x n 0 = List.replicate n (Value.int .u8 0) := by simp [putAt, putL, bv]
set_option maxRecDepth 100000 in
theorem putAt_n (x : Int) (n : Nat) : putAt x n n = bv (putL x n) := by simp [putAt]
set_option maxRecDepth 100000 in
theorem putAt_succ (x : Int) (n k : Nat) (h : k < n) : (putAt x n k).set (n - 1 - k) (.int .u8 (sh x k % 256)) = putAt x n (k + 1) := by
  unfold putAt
  obtain ⟨m, rfl⟩ : ∃ m, n = k + 1 + m := ⟨n - k - 1, by omega⟩
  have e1 : k + 1 + m - k = m + 1 := by omega
  have e2 : k + 1 + m - 1 - k = m := by omega
  have e3 : k + 1 + m - (k + 1) = m := by omega
  rw [e1, e2, e3, List.replicate_succ', List.append_assoc, List.set_append_right _ _ (by simp)]
  simp [putL, bv]
set_option maxHeartbeats 400000 in
theorem put_some (x : Int) (n : Nat) (w : World) (h1 : 1 ≤ n) (h8 : n ≤ 8) (hx0 : 0 ≤ x) (hx1 : x ≤ 18446744073709551615) :
    Calls Tryz.prog 196 #[.int .u64 x, .int .i64 n] w fun e w' => ∃ v, e = .returned v ∧ w'.ownsRow w.heap.size 5 1 v n (bv (putL x n)) ∧ Below w.heap.size w w' := by
  have hn1 : ¬ (n : Int) < 1 := by omega
  have hn8 : ¬ (8 : Int) < n := by omega
  obtain ⟨i0, hi, hz0, hz1, hz2⟩ := info_parts Tryz.info5
  go_enter Tryz.func196, Tryz.ntmps196
  go_wp2_with (at_make; refine wpList_make_full _ rfl _ _ 34 rfl w.heap.size 5 i0 (.int .u8 0) 1 Tryz.underlying34 hi hz0 hz1 _ _ _ _ n rfl rfl rfl rfl (by rw [hz2]; omega) (by unfold maxLen; omega) (Nat.le_refl _) ?_)
  intro w1 hown hgrow
  rw [toList_madeCells_one, ← putAt_zero x n] at hown
  have hb1 : Below w.heap.size w w1 := (Below.refl _ _).grown hgrow (Nat.le_refl _) (by intro k hk; cases hk)
  clear hgrow hi hz0 hz1 hz2
  go_wp2
  go_loopw [0, 16] (fun xs i wr => ∃ k : Nat, k ≤ n ∧ i = .int .i64 k ∧ xs = .int .u64 (sh x k) ∧ wr.ownsRow w.heap.size 5 1 (.slice (some ⟨w.heap.size, 0, none⟩) n n) n (putAt x n k) ∧ Below w.heap.size w wr) (fun _ i _ => n - (intOf i).toNat)
  case atStart => exact ⟨0, Nat.zero_le _, rfl, by rw [sh_zero], hown, hb1⟩
  case round =>
    obtain ⟨k, hk, rfl, rfl, hown, hb⟩ := hrel
    by_cases hlt : k < n
    · have hs := sh_bd x k hx0 hx1
      obtain ⟨c0, hc⟩ := owns_cell hown (n - 1 - k) (by omega)
      have hf := hown.frozenAt (n - 1 - k)
      have hst := hown.stored (n - 1 - k) (.int .u8 (sh x k % 256))
      rw [putAt_succ x n k hlt] at hst
      have hb2 := hb.grown hst.2 hb.size (by intro j hj; cases hj; exact Nat.le_refl _)
      go_wp2
      go_roundw
      case rel => exact ⟨k + 1, by omega, by go_num, by rw [sh_succ], hst.1, hb2⟩
      case measure => simp [intOf]; omega
    · obtain rfl : k = n := by omega
      rw [putAt_n] at hown
      go_wp2
      go_ret
      exact ⟨_, rfl, hown, hb⟩
end Go.Proofs.YtipakjenggeflaaGreatDoor
namespace Go.Proofs.YtipakjenggeflaaGreatDoor
open Go.RowKit
set_option linter.unusedVariables false

set_option maxRecDepth 100000 in
theorem putL_byt (x : Int) (n : Nat) : Byt (putL x n) := by
  induction n with
  | zero => exact Byt.nil
  | succ n ih => exact Byt.cons (by omega) ih
end Go.Proofs.YtipakjenggeflaaGreatDoor
namespace Go.Proofs.YtipakjenggeflaaGreatDoor
open Go.RowKit
set_option linter.unusedVariables false

def keyL : List Int := [1116352408, 1899447441, 3049323471, 3921009573, 961987163, 1508970993, 2453635748, 2870763221, 3624381080, 310598401, 607225278, 1426881987, 1925078388, 2162078206, 2614888103, 3248222580, 3835390401, 4022224774, 264347078, 604807628, 770255983, 1249150122, 1555081692, 1996064986, 2554220882, 2821834349, 2952996808, 3210313671, 3336571891, 3584528711, 113926993, 338241895, 666307205, 773529912, 1294757372, 1396182291, 1695183700, 1986661051, 2177026350, 2456956037, 2730485921, 2820302411, 3259730800, 3345764771, 3516065817, 3600352804, 4094571909, 275423344, 430227734, 506948616, 659060556, 883997877, 958139571, 1322822218, 1537002063, 1747873779, 1955562222, 2024104815, 2227730452, 2361852424, 2428436474, 2756734187, 3204031479, 3329325298]
def uv (l : List Int) : List Value := l.map (Value.int .u32)
end Go.Proofs.YtipakjenggeflaaGreatDoor
namespace Go.Proofs.YtipakjenggeflaaGreatDoor
open Go.RowKit
set_option linter.unusedVariables false

def getV (l : List Int) : Int := l.foldl (fun x c => 256 * x + c) 0
set_option maxRecDepth 100000 in
theorem getV_snoc (l : List Int) (c : Int) : getV (l ++ [c]) = 256 * getV l + c := by simp [getV]
set_option maxRecDepth 100000 in
theorem getV_bd (l : List Int) (h : Byt l) : 0 ≤ getV l ∧ getV l < 256 ^ l.length := by
  suffices H : ∀ (m : List Int), Byt m.reverse → 0 ≤ getV m.reverse ∧ getV m.reverse < 256 ^ m.length by
    have := H l.reverse (by simpa using h); simpa using this
  intro m
  induction m with
  | nil => intro _; simp [getV]
  | cons c m ih =>
    intro hb
    have h1 : Byt m.reverse := fun d hd => hb d (by simp at hd ⊢; exact .inl hd)
    have h2 := hb c (by simp)
    have h3 := ih h1
    rw [List.reverse_cons, getV_snoc, List.length_cons, Int.pow_succ]
    omega
set_option maxRecDepth 100000 in
theorem getV_small (l : List Int) (h : Byt l) (n : Nat) (hl : l.length ≤ n) (hn : n ≤ 7) : 0 ≤ getV l ∧ getV l ≤ 72057594037927935 := by
  have h1 := getV_bd l h
  rcases (by omega : l.length = 0 ∨ l.length = 1 ∨ l.length = 2 ∨ l.length = 3 ∨ l.length = 4 ∨ l.length = 5 ∨ l.length = 6 ∨ l.length = 7) with h | h | h | h | h | h | h | h <;> rw [h] at h1 <;> omega
set_option maxRecDepth 100000 in
theorem or_join64 (i : Nat) (x y : Int) (hx0 : 0 ≤ x) (hx : x ≤ 18446744073709551615) (hm : x % 2 ^ i = 0) (hy0 : 0 ≤ y) (hy : y < 2 ^ i) (hy2 : y ≤ 18446744073709551615) : bits .or .u64 x y = x + y := by
  rw [u64_or x y hx0 (by omega) hy0 (by omega)]
  obtain ⟨a, rfl⟩ := Int.eq_ofNat_of_zero_le hx0
  obtain ⟨b, rfl⟩ := Int.eq_ofNat_of_zero_le hy0
  rw [Int.toNat_natCast, Int.toNat_natCast, nat_join i a b (by exact_mod_cast hm) (by exact_mod_cast hy)]
  rfl
set_option maxRecDepth 100000 in
theorem tuple_ub {a b : Int} (h : a = b) (c : Bool) : Ending.returned (.tuple #[.int .u64 a, .bool c]) = .returned (.tuple #[.int .u64 b, .bool c]) := by rw [h]
set_option maxHeartbeats 400000 in
theorem get_some (a : Option Addr) (len cap : Nat) (l : List Int) (w : World) (h : Bts w a len cap l) (h1 : 1 ≤ len) (h8 : len ≤ 8) :
    Calls Tryz.prog 281 #[.slice a len cap] w fun e w' => e = .returned (.tuple #[.int .u64 (getV l), .bool true]) ∧ w = w' := by
  have hl : Hid (l.length = len) := h.len_eq
  obtain ⟨b, off, rfl, _, hc⟩ := h.spot (by omega)
  have hn1 : ¬ (len : Int) < 1 := by omega
  have hn8 : ¬ (8 : Int) < len := by omega
  have HB : Hid (Byt l) := h.byt
  clear h
  go_enter Tryz.func281, Tryz.ntmps281
  go_wp2
  go_loop [4, 17] (fun x i => ∃ k : Nat, k ≤ len ∧ i = .int .i64 k ∧ x = .int .u64 (getV (l.take k))) (fun _ i => len - (intOf i).toNat)
  case atStart => exact ⟨0, Nat.zero_le _, rfl, rfl⟩
  case round =>
    obtain ⟨k, hk, rfl, rfl⟩ := hrel
    by_cases hlt : k < len
    · have hcell := hc k hlt
      have hv := getV_small (l.take k) (HB.out.take k) k (List.length_take_le _ _) (by omega)
      have hbd := HB.out.getD k
      have HS : Hid (getV (l.take (k + 1)) = 256 * getV (l.take k) + l.getD k 0) := by rw [take_succ_getD l k (by rw [hl.out]; omega)]; exact getV_snoc _ _
      generalize getV (l.take k) = G at hv HS ⊢
      generalize l.getD k 0 = C at hcell hbd HS
      have hj : bits .or .u64 (G * 256) C = G * 256 + C := or_join64 8 _ _ (by omega) (by omega) (by omega) hbd.1 (by omega) (by omega)
      clear hc
      go_wp2
      go_round
      case rel => exact ⟨k + 1, by omega, by go_num, by rw [HS.out]; go_num⟩
      case measure => simp [intOf]; omega
    · have HT : Hid (l.take k = l) := List.take_of_length_le (by rw [hl.out]; omega)
      clear hc
      go_wp2
      go_ret2
      exact ⟨tuple_ub (by rw [HT.out]) _, rfl⟩
end Go.Proofs.YtipakjenggeflaaGreatDoor
namespace Go.Proofs.YtipakjenggeflaaGreatDoor
open Go.RowKit
set_option linter.unusedVariables false

set_option maxRecDepth 100000 in
theorem uv_getD (l : List Int) (i : Nat) (h : i < l.length) : (uv l)[i]? = some (.int .u32 (l.getD i 0)) := by
  rw [uv, List.getElem?_map, List.getElem?_eq_getElem h, List.getD_eq_getElem?_getD, List.getElem?_eq_getElem h]; rfl
end Go.Proofs.YtipakjenggeflaaGreatDoor
namespace Go.Proofs.YtipakjenggeflaaGreatDoor
open Go.RowKit
set_option linter.unusedVariables false

set_option maxRecDepth 100000 in
theorem Bts.cut {w : World} {ao : Option Addr} {len cap : Nat} {l : List Int} (h : Bts w ao len cap l) (n : Nat) (hn : n ≤ len) : Bts w ao n cap (l.take n) := by
  have hl := h.len_eq
  refine ⟨by rw [List.length_take]; omega, h.byt.take n, Nat.le_trans hn h.le_cap, h.cap_le, h.nil, fun hp => ?_⟩
  obtain ⟨b, off, e, hlt, hc⟩ := h.spot (by omega)
  refine ⟨b, off, e, hlt, fun i hi => ?_⟩
  rw [hc i (by omega), List.getD_eq_getElem?_getD, List.getD_eq_getElem?_getD, List.getElem?_take, if_pos hi]
set_option maxRecDepth 100000 in
theorem Bts.cells {w : World} {ad : Addr} {len cap : Nat} {l : List Int} (h : Bts w (some ad) len cap l) : ∀ j u, (bv l)[j]? = some u → w.cell? (ad.add j) = some u := by
  intro j u hu
  have hj : j < l.length := by have := (List.getElem?_eq_some_iff.1 hu).1; rwa [bv_length] at this
  have hl := h.len_eq
  obtain ⟨b, off, e, hlt, hc⟩ := h.spot (by omega)
  cases e
  rw [Addr.add_lit, hc j (by omega), List.getD_eq_getElem?_getD, List.getElem?_eq_getElem hj]
  rw [bv, List.getElem?_map, List.getElem?_eq_getElem hj] at hu
  exact hu
set_option maxHeartbeats 400000 in
theorem cut_any (a : Option Addr) (len cap n : Nat) (l : List Int) (w : World) (h : Bts w a len cap l) (hn : 1 ≤ n) :
    Calls Tryz.prog 13 #[.slice a len cap, .int .i64 n] w fun e w' => (∃ len', e = .returned (.slice a len' cap) ∧ Bts w a len' cap (l.take n)) ∧ w = w' := by
  have hm := Nat.le_trans h.le_cap h.cap_le
  have hcm := h.cap_le
  have hlc := h.le_cap
  unfold maxLen at hm hcm
  by_cases hlt : n < len
  · have hb := h.cut n (by omega)
    obtain ⟨b, off, rfl, _, _⟩ := h.spot (by omega)
    go_enter Tryz.func13, Tryz.ntmps13
    go_wp2
    go_ret
    exact ⟨⟨_, rfl, hb⟩, rfl⟩
  · have hl := h.len_eq
    rw [List.take_of_length_le (by omega)]
    have hn' : ¬ (n : Int) < len := by omega
    go_enter Tryz.func13, Tryz.ntmps13
    go_wp2
    go_ret
    exact ⟨⟨_, rfl, h⟩, rfl⟩
set_option maxHeartbeats 400000 in
theorem copy_any (a : Option Addr) (len cap : Nat) (l : List Int) (w : World) (h : Bts w a len cap l) (hs : len ≤ 140737488355328) :
    Calls Tryz.prog 43 #[.slice a len cap] w fun e w' => ∃ v, e = .returned v ∧ w'.ownsRow w.heap.size 5 1 v len (bv l) ∧ Below w.heap.size w w' := by
  have hm := Nat.le_trans h.le_cap h.cap_le
  have hl := h.len_eq
  obtain ⟨i0, hi, hz0, hz1, hz2⟩ := info_parts Tryz.info5
  cases a with
  | none =>
    have hc0 := h.nil rfl
    have hlc := h.le_cap
    obtain rfl : cap = 0 := hc0
    obtain rfl : len = 0 := by omega
    obtain rfl : l = [] := List.eq_nil_of_length_eq_zero hl
    go_enter Tryz.func43, Tryz.ntmps43
    go_wp2
    go_ret
    exact ⟨_, rfl, World.ownsRow_nil _ _ _ _, Below.refl _ _⟩
  | some ad =>
    have hcells := h.cells
    go_enter Tryz.func43, Tryz.ntmps43
    go_wp2_with (at_builtin; refine wpList_append_own _ rfl _ _ 34 rfl w.heap.size 5 i0 (.int .u8 0) 1 1 Tryz.underlying34 hi hz0 hz1 hz2 rfl (by decide) _ 0 [] rfl (World.ownsRow_nil _ _ _ _) ad len cap (bv l) rfl ?c0 hcells (bv_one l) ?c3 ?c4 (Nat.le_refl _) ?_)
    case c0 => rw [bv_length]; omega
    case c3 => omega
    case c4 => omega
    intro v' w1 hown hgrow _
    have hb1 : Below w.heap.size w w1 := (Below.refl _ _).grown hgrow (Nat.le_refl _) (by intro k hk; cases hk)
    clear hgrow hi hz0 hz1 hz2 hcells
    go_wp2
    go_ret
    exact ⟨_, rfl, hown, hb1⟩
end Go.Proofs.YtipakjenggeflaaGreatDoor
namespace Go.Proofs.YtipakjenggeflaaGreatDoor
open Go.RowKit
set_option linter.unusedVariables false

/-- the package's table holds the numbers k -/
structure Tab (w : World) : Prop where
  pos : 1 < w.heap.size
  cell : ∀ i, i < 64 → w.cell? ⟨1, i, none⟩ = some (.int .u32 (keyL.getD i 0))
set_option maxRecDepth 100000 in
theorem Tab.below {w w' : World} (h : Tab w) (hb : Below w.heap.size w w') : Tab w' :=
  ⟨Nat.lt_of_lt_of_le h.pos hb.size, fun i hi => (hb.cell (p := ⟨1, i, none⟩) h.pos).trans (h.cell i hi)⟩
end Go.Proofs.YtipakjenggeflaaGreatDoor
namespace Go.Proofs.YtipakjenggeflaaGreatDoor
open Go.RowKit
set_option linter.unusedVariables false

def varL (x : Int) : List Int := varF 9 x
set_option maxRecDepth 100000 in
theorem varL_byt (x : Int) (h0 : 0 ≤ x) (h1 : x ≤ 18446744073709551615) : Byt (varL x) :=
  varF_byt 9 x h0 (by rw [show (128 : Int) ^ (9 + 1) = 1180591620717411303424 from rfl]; omega)
set_option maxRecDepth 100000 in
theorem varL_length (x : Int) : 1 ≤ (varL x).length ∧ (varL x).length ≤ 10 := varF_length 9 x
end Go.Proofs.YtipakjenggeflaaGreatDoor
namespace Go.Proofs.YtipakjenggeflaaGreatDoor
open Go.RowKit
set_option linter.unusedVariables false

/-- x without its k lowest sevens of bits -/
def sv (x : Int) (k : Nat) : Int := x / 128 ^ k
set_option maxRecDepth 100000 in
theorem sv_zero (x : Int) : sv x 0 = x := by simp [sv]
set_option maxRecDepth 100000 in
theorem sv_succ (x : Int) (k : Nat) : sv x (k + 1) = sv x k / 128 := by
  unfold sv
  rw [Int.pow_succ, Int.ediv_ediv_of_nonneg (Int.le_of_lt (p128 k))]
set_option maxRecDepth 100000 in
theorem sv_bd (x : Int) (k : Nat) (h0 : 0 ≤ x) (h1 : x ≤ 18446744073709551615) : 0 ≤ sv x k ∧ sv x k ≤ 18446744073709551615 := by
  induction k with
  | zero => rw [sv_zero]; exact ⟨h0, h1⟩
  | succ k ih => rw [sv_succ]; omega
set_option maxRecDepth 100000 in
theorem sv_nine (x : Int) (h1 : x ≤ 18446744073709551615) : sv x 9 < 128 := by
  unfold sv; rw [show (128 : Int) ^ 9 = 9223372036854775808 from rfl]; omega
set_option maxRecDepth 100000 in
theorem var_rel {w wr w1 : World} {p : List Int} {n : Nat} {v v' : Value} {c : Int} {o : Obj} (hb : Below w.heap.size w wr)
    (hown : wr.ownsRow w.heap.size 5 1 v n (bv p))
    (h1 : w1.ownsRow w.heap.size 5 1 v' (n + 1) (bv p ++ [.int .u8 c])) (hg : (wr.alloc o).grownBy w1 v.ownBlock) :
    w1.ownsRow w.heap.size 5 1 v' (n + 1) (bv (p ++ [c])) ∧ Below w.heap.size w w1 := by
  refine ⟨by rw [bv_append]; exact h1, ?_⟩
  refine (hb.alloc hb.size o).grown hg (by have := hb.size; simp; omega) ?_
  intro g hg'
  exact (hown.lt g hg').1
set_option maxHeartbeats 400000 in
theorem var_any (x : Int) (w : World) (hx0 : 0 ≤ x) (hx1 : x ≤ 18446744073709551615) :
    Calls Tryz.prog 197 #[.int .u64 x] w fun e w' => ∃ v, e = .returned v ∧ w'.ownsRow w.heap.size 5 1 v (varL x).length (bv (varL x)) ∧ Below w.heap.size w w' := by
  obtain ⟨i0, hi, hz0, hz1, hz2⟩ := info_parts Tryz.info5
  go_enter Tryz.func197, Tryz.ntmps197
  go_wp2
  go_loopw [0, 3] (fun y v wr => ∃ (k : Nat) (p : List Int), k ≤ 9 ∧ y = .int .u64 (sv x k) ∧ wr.ownsRow w.heap.size 5 1 v k (bv p) ∧ p ++ varF (9 - k) (sv x k) = varL x ∧ Below w.heap.size w wr) (fun y _ _ => (intOf y).toNat)
  case atStart => exact ⟨0, [], Nat.zero_le _, by rw [sv_zero], World.ownsRow_nil _ _ _ _, by rw [sv_zero]; rfl, Below.refl _ _⟩
  case round =>
    obtain ⟨k, p, hk, rfl, hown, hp, hb⟩ := hrel
    have hs := sv_bd x k hx0 hx1
    have HN : Hid (k = 9 → sv x k < 128) := fun h => by rw [h]; exact sv_nine x hx1
    have HS : Hid (sv x (k + 1) = sv x k / 128) := sv_succ x k
    have HPl : Hid (p ++ varF (9 - k) (sv x k) = varL x) := hp
    clear hp
    generalize sv x k = y at hs HN HS HPl ⊢
    by_cases hlt : 128 ≤ y
    · have hk9 : k < 9 := by
        rcases Nat.lt_or_ge k 9 with h | h
        · exact h
        · have := HN.out (by omega); omega
      have HP2 : Hid (p ++ [y % 128 + 128] ++ varF (9 - (k + 1)) (y / 128) = varL x) := by
        show _ = _
        rw [← HPl.out, show 9 - k = 9 - (k + 1) + 1 from by omega, varF_big _ y (by omega), List.append_assoc]; rfl
      go_wp2_with (at_builtin; refine wpList_append_own _ rfl _ _ 34 rfl w.heap.size 5 i0 (.int .u8 0) 1 1 Tryz.underlying34 hi hz0 hz1 hz2 rfl (by decide) _ _ _ rfl (hown.alloc _) ⟨wr.heap.size, 0, none⟩ 1 1 [.int .u8 (y % 128 + 128)] rfl rfl (cell_one_new _ _ _) (bv_one [y % 128 + 128]) (by unfold maxLen; omega) (by omega) (by have := hb.size; simp; omega) ?_)
      intro v' w1 hown' hgrow _
      have R := var_rel hb hown hown' hgrow
      clear hown' hgrow hown hb
      go_wp2
      go_roundw
      case rel => exact ⟨k + 1, p ++ [y % 128 + 128], by omega, by rw [HS.out], R.1, by rw [HS.out]; exact HP2.out, R.2⟩
      case measure => simp [intOf]; omega
    · have HP2 : Hid (p ++ [y] = varL x) := by
        show _ = _
        rw [← HPl.out, varF_small _ y (by omega)]
      have HL : Hid (k + 1 = (varL x).length) := by
        show _ = _
        have h1 := hown.1; rw [bv_length] at h1
        rw [← HP2.out, List.length_append, List.length_singleton]; omega
      go_wp2_with (at_builtin; refine wpList_append_own _ rfl _ _ 34 rfl w.heap.size 5 i0 (.int .u8 0) 1 1 Tryz.underlying34 hi hz0 hz1 hz2 rfl (by decide) _ _ _ rfl (hown.alloc _) ⟨wr.heap.size, 0, none⟩ 1 1 [.int .u8 y] rfl rfl (cell_one_new _ _ _) (bv_one [y]) (by unfold maxLen; omega) (by omega) (by have := hb.size; simp; omega) ?_)
      intro v' w1 hown' hgrow _
      have R := var_rel hb hown hown' hgrow
      clear hown' hgrow hown hb
      rw [HP2.out, HL.out] at R
      go_wp2
      go_ret
      exact ⟨_, rfl, R.1, R.2⟩
def rdVal (r : Int × Int × Int) : Value := .tuple #[.int .u64 r.1, .int .i64 r.2.1, .int .i64 r.2.2]
set_option maxRecDepth 100000 in
theorem rd_ret {r : Int × Int × Int} {a b c : Int} (h : r = (a, b, c)) : Ending.returned (.tuple #[.int .u64 a, .int .i64 b, .int .i64 c]) = .returned (rdVal r) := by rw [h]; rfl
set_option maxRecDepth 100000 in
theorem drop_getD (l : List Int) (k : Nat) (h : k < l.length) : l.drop k = l.getD k 0 :: l.drop (k + 1) := by
  rw [List.getD_eq_getElem?_getD, List.getElem?_eq_getElem h]; exact List.drop_eq_getElem_cons h
set_option maxRecDepth 100000 in
theorem or_low64 (i : Nat) (x y : Int) (hx0 : 0 ≤ x) (hx : x ≤ 18446744073709551615) (hy0 : 0 ≤ y) (hy : y ≤ 18446744073709551615) (hlt : x < 2 ^ i) (hm : y % 2 ^ i = 0) : bits .or .u64 x y = x + y := by
  rw [u64_or x y hx0 (by omega) hy0 (by omega)]
  obtain ⟨a, rfl⟩ := Int.eq_ofNat_of_zero_le hx0
  obtain ⟨b, rfl⟩ := Int.eq_ofNat_of_zero_le hy0
  rw [Int.toNat_natCast, Int.toNat_natCast, Nat.or_comm, nat_join i b a (by exact_mod_cast hm) (by exact_mod_cast hlt), Nat.add_comm]
  rfl
set_option maxHeartbeats 1000000 in
theorem readvar_any (a : Option Addr) (len cap : Nat) (l : List Int) (w : World) (h : Bts w a len cap l) :
    Calls Tryz.prog 159 #[.slice a len cap] w fun e w' => e = .returned (rdVal (rd l 0 0)) ∧ w = w' := by
  have hl : Hid (l.length = len) := h.len_eq
  have hm := Nat.le_trans h.le_cap h.cap_le
  unfold maxLen at hm
  have HB : Hid (Byt l) := h.byt
  go_enter Tryz.func159, Tryz.ntmps159
  go_wp2
  go_loop [5, 10] (fun x i => ∃ (k : Nat) (X : Int), k ≤ len ∧ k ≤ 9 ∧ i = .int .i64 k ∧ x = .int .u64 X ∧ 0 ≤ X ∧ X < 128 ^ k ∧ rd (l.drop k) k X = rd l 0 0) (fun _ i => len - (intOf i).toNat)
  case atStart => exact ⟨0, 0, Nat.zero_le _, by omega, rfl, rfl, by omega, by simp, rfl⟩
  case round =>
    obtain ⟨k, X, hk, hk9, rfl, rfl, hX0, hX1, hrd⟩ := hrel
    have HR : Hid (rd (l.drop k) k X = rd l 0 0) := hrd
    have HX : Hid (X < 128 ^ k) := hX1
    clear hrd
    by_cases hlt : k < len
    · obtain ⟨b, off, rfl, _, hc⟩ := h.spot (by omega)
      have hcell := hc k hlt
      have hbd := HB.out.getD k
      have HD : Hid (l.drop k = l.getD k 0 :: l.drop (k + 1)) := drop_getD l k (by rw [hl.out]; exact hlt)
      clear hc
      generalize l.getD k 0 = C at hcell hbd HD
      have HR2 : Hid (rd (C :: l.drop (k + 1)) k X = rd l 0 0) := by show _ = _; rw [← HD.out]; exact HR.out
      have hpl := p128_le k hk9
      have hp := p128 k
      have hX2 : X ≤ 18446744073709551615 := by omega
      have hsh := mul_bd (a := C % 128) (by omega) (by omega) hp
      have hX1' := HX.out
      by_cases c9 : k = 9
      · have c9a : ((k : Int) == 9) = true := by simp; omega
        have hk0 : ((0 : Int) < (k : Int)) := by omega
        have HE9 : Hid ((128 : Int) ^ k = 9223372036854775808) := by show _ = _; rw [c9]; rfl
        have HK9 : Hid (k = 9) := c9
        clear c9
        by_cases c1 : 1 < C
        · have HF : Hid (rd l 0 0 = (0, 0, 4)) := by show _ = _; rw [← HR2.out]; unfold rd; rw [if_pos ⟨HK9.out, c1⟩]
          clear hX1' hX1 hsh
          go_wp2
          go_ret3
          exact ⟨rd_ret HF.out, rfl⟩
        · have hT : 0 ≤ C % 128 * 2 ^ (7 * k) ∧ C % 128 * 2 ^ (7 * k) ≤ 18446744073709551615 := by
            rw [p128_two, HE9.out]; omega
          have hor : bits .or .u64 X (C % 128 * 2 ^ (7 * k)) = X + C % 128 * 2 ^ (7 * k) := or_low64 (7 * k) _ _ hX0 hX2 hT.1 hT.2 (by rw [p128_two]; exact HX.out) (Int.mul_emod_left _ _)
          have c128 : ¬ 128 ≤ C := by omega
          by_cases c0 : C = 0
          · have HF : Hid (rd l 0 0 = (0, 0, 4)) := by show _ = _; rw [← HR2.out]; unfold rd; rw [if_neg (fun h => c1 h.2), if_neg c128, if_pos ⟨c0, by omega⟩]
            have c0b : (C == 0) = true := by simpa using c0
            clear hX1' hX1 hsh c0
            go_wp2
            go_ret3
            exact ⟨rd_ret HF.out, rfl⟩
          · have HF : Hid (rd l 0 0 = (X + C % 128 * 2 ^ (7 * k), (k : Int) + 1, 0)) := by show _ = _; rw [← HR2.out, p128_two]; unfold rd; rw [if_neg (fun h => c1 h.2), if_neg c128, if_neg (fun h => c0 h.1)]
            have c0b : (C == 0) = false := by simpa using c0
            clear hX1' hX1 hsh c0
            go_wp2
            go_ret3
            exact ⟨rd_ret HF.out, rfl⟩
      · have c9a : ((k : Int) == 9) = false := by simp; omega
        have c9n : ¬ (k = 9 ∧ 1 < C) := fun h => c9 h.1
        have hp8 := p128_le8 k (by omega)
        have hT : 0 ≤ C % 128 * 2 ^ (7 * k) ∧ C % 128 * 2 ^ (7 * k) ≤ 18446744073709551615 := by
          rw [p128_two]; omega
        have hor : bits .or .u64 X (C % 128 * 2 ^ (7 * k)) = X + C % 128 * 2 ^ (7 * k) := or_low64 (7 * k) _ _ hX0 hX2 hT.1 hT.2 (by rw [p128_two]; exact HX.out) (Int.mul_emod_left _ _)
        have HC9 : Hid (¬ (k = 9 ∧ 1 < C)) := c9n
        have hk8 : k ≤ 8 := by omega
        clear c9 c9n
        by_cases c128 : 128 ≤ C
        · have HF : Hid (rd (l.drop (k + 1)) (k + 1) (X + C % 128 * 128 ^ k) = rd l 0 0) := by show _ = _; rw [← HR2.out]; conv => rhs; unfold rd; rw [if_neg HC9.out, if_pos c128]
          have HB2 : Hid (X + C % 128 * 128 ^ k < 128 ^ (k + 1)) := by show _ < _; rw [Int.pow_succ]; omega
          have HB0 : Hid (0 ≤ X + C % 128 * 128 ^ k) := by show _ ≤ _; omega
          clear hX1' hX1 hsh
          go_wp2
          go_round
          case rel => exact ⟨k + 1, X + C % 128 * 128 ^ k, by omega, by omega, by go_num, by rw [← p128_two], HB0.out, HB2.out, HF.out⟩
          case measure => simp [intOf]; omega
        · by_cases c0 : C = 0
          · have c0b : (C == 0) = true := by simpa using c0
            by_cases k0 : 0 < k
            · have HF : Hid (rd l 0 0 = (0, 0, 4)) := by show _ = _; rw [← HR2.out]; unfold rd; rw [if_neg HC9.out, if_neg c128, if_pos ⟨c0, k0⟩]
              have k0' : (0 : Int) < k := by omega
              clear hX1' hX1 hsh c0
              go_wp2
              go_ret3
              exact ⟨rd_ret HF.out, rfl⟩
            · have HF : Hid (rd l 0 0 = (X + C % 128 * 2 ^ (7 * k), (k : Int) + 1, 0)) := by show _ = _; rw [← HR2.out, p128_two]; unfold rd; rw [if_neg HC9.out, if_neg c128, if_neg (fun h => k0 h.2)]
              have k0' : ¬ (0 : Int) < k := by omega
              clear hX1' hX1 hsh c0
              go_wp2
              go_ret3
              exact ⟨rd_ret HF.out, rfl⟩
          · have c0b : (C == 0) = false := by simpa using c0
            have HF : Hid (rd l 0 0 = (X + C % 128 * 2 ^ (7 * k), (k : Int) + 1, 0)) := by show _ = _; rw [← HR2.out, p128_two]; unfold rd; rw [if_neg HC9.out, if_neg c128, if_neg (fun h => c0 h.1)]
            clear hX1' hX1 hsh c0
            go_wp2
            go_ret3
            exact ⟨rd_ret HF.out, rfl⟩
    · have HF : Hid (rd l 0 0 = (0, 0, 3)) := by show _ = _; rw [← HR.out, List.drop_of_length_le (by rw [hl.out]; omega)]; rfl
      clear hX1
      go_wp2
      go_ret3
      exact ⟨rd_ret HF.out, rfl⟩
end Go.Proofs.YtipakjenggeflaaGreatDoor
namespace Go.Proofs.YtipakjenggeflaaGreatDoor
open Go.RowKit
set_option linter.unusedVariables false

/-- an event: its client, whether it is a call, which operation, with what -/
structure Ev where
  c : Int
  k : Bool
  o : Int
  v : Int
def ev0 : Ev := ⟨0, false, 0, 0⟩
/-- an event can be -/
def canE (x : Ev) : Bool := decide (0 ≤ x.c) && decide (x.c ≤ 15) && (if x.k = true then decide (0 ≤ x.o) && decide (x.o ≤ 15) else decide (x.o = 0))
/-- why an event is none: W says who waits, n how many calls stand ahead -/
def stpE (W : Int → Bool) (n : Nat) (x : Ev) : Int := if canE x = false then 2 else if x.k = true ∧ n = 64 then 5 else if x.k = W x.c then 20 else 0
def updW (W : Int → Bool) (x : Ev) : Int → Bool := fun c => if c = x.c then x.k else W c
def cntK (n : Nat) (x : Ev) : Nat := if x.k = true then n + 1 else n
/-- where and why events are no history -/
def chkF : (Int → Bool) → Nat → Nat → List Ev → Nat × Int
  | _, _, _, [] => (0, 0)
  | W, n, i, x :: t => if stpE W n x ≠ 0 then (i, stpE W n x) else chkF (updW W x) (cntK n x) (i + 1) t
def nobW : Int → Bool := fun _ => false
def chk (l : List Ev) : Nat × Int := chkF nobW 0 0 l
end Go.Proofs.YtipakjenggeflaaGreatDoor
namespace Go.Proofs.YtipakjenggeflaaGreatDoor
open Go.RowKit
set_option linter.unusedVariables false

def zagV (u : Int) : Int := if u % 2 = 0 then u / 2 else - (u / 2) - 1
end Go.Proofs.YtipakjenggeflaaGreatDoor
namespace Go.Proofs.YtipakjenggeflaaGreatDoor
open Go.RowKit
set_option linter.unusedVariables false

/-- a number that an int64 is -/
def V64 (v : Int) : Prop := -9223372036854775808 ≤ v ∧ v ≤ 9223372036854775807
/-- one event: the event, how many bytes, the error -/
def rdEH (b : List Int) : Ev × Nat × Int :=
  if b.length = 0 then (ev0, 0, 3) else
  if 31 < b.getD 0 0 then (ev0, 0, 4) else
  if b.getD 0 0 % 2 = 1 then
    (if b.length ≤ 1 then (ev0, 0, 3) else if 15 < b.getD 1 0 then (ev0, 0, 4) else
     if (rd (b.drop 2) 0 0).2.2 ≠ 0 then (ev0, 0, (rd (b.drop 2) 0 0).2.2) else (⟨b.getD 0 0 / 2, true, b.getD 1 0, zagV (rd (b.drop 2) 0 0).1⟩, 2 + (rd (b.drop 2) 0 0).2.1.toNat, 0))
  else if (rd (b.drop 1) 0 0).2.2 ≠ 0 then (ev0, 0, (rd (b.drop 1) 0 0).2.2) else (⟨b.getD 0 0 / 2, false, 0, zagV (rd (b.drop 1) 0 0).1⟩, 1 + (rd (b.drop 1) 0 0).2.1.toNat, 0)
/-- so many events from a place on: the events, the place behind them, the error -/
def rdF (b : List Int) : Nat → Nat → List Ev × Nat × Int
  | 0, p => ([], p, 0)
  | n + 1, p => if (rdEH (b.drop p)).2.2 ≠ 0 then ([], 0, (rdEH (b.drop p)).2.2) else
    if (rdF b n (p + (rdEH (b.drop p)).2.1)).2.2 ≠ 0 then ([], 0, (rdF b n (p + (rdEH (b.drop p)).2.1)).2.2) else
    ((rdEH (b.drop p)).1 :: (rdF b n (p + (rdEH (b.drop p)).2.1)).1, (rdF b n (p + (rdEH (b.drop p)).2.1)).2.1, 0)
/-- what bytes say: the events, the error -/
def rdH (b : List Int) : List Ev × Int :=
  if (rd b 0 0).2.2 ≠ 0 then ([], (rd b 0 0).2.2) else
  if 128 < (rd b 0 0).1 then ([], 5) else
  if (rdF b (rd b 0 0).1.toNat (rd b 0 0).2.1.toNat).2.2 ≠ 0 then ([], (rdF b (rd b 0 0).1.toNat (rd b 0 0).2.1.toNat).2.2) else
  if (rdF b (rd b 0 0).1.toNat (rd b 0 0).2.1.toNat).2.1 < b.length then ([], 6) else
  if (chk (rdF b (rd b 0 0).1.toNat (rd b 0 0).2.1.toNat).1).2 ≠ 0 then ([], (chk (rdF b (rd b 0 0).1.toNat (rd b 0 0).2.1.toNat).1).2) else
  ((rdF b (rd b 0 0).1.toNat (rd b 0 0).2.1.toNat).1, 0)
end Go.Proofs.YtipakjenggeflaaGreatDoor
namespace Go.Proofs.YtipakjenggeflaaGreatDoor
open Go.RowKit
set_option linter.unusedVariables false

/-- an entry: the job, the time, two sums, the kind, the tries, the order -/
structure En where
  j : Int
  t : Int
  H : List Int
  S : List Int
  k : Int
  r : Int
  o : List Int
def dg0 : List Int := List.replicate 32 0
def en0 : En := ⟨0, 0, dg0, dg0, 0, 0, []⟩
/-- a number of the order is from 0 to 63 and did not stand there -/
def okO (o : List Int) (i : Nat) : Bool := decide (0 ≤ o.getD i 0) && decide (o.getD i 0 ≤ 63) && !(o.take i).contains (o.getD i 0)
def ordO (o : List Int) : Bool := (List.range o.length).all (okO o)
/-- its numbers can be -/
def numO (e : En) : Bool := decide (0 ≤ e.j ∧ e.j ≤ 63 ∧ 0 ≤ e.t ∧ e.t ≤ 1099511627776 ∧ 1 ≤ e.k ∧ e.k ≤ 4 ∧ 0 ≤ e.r ∧ e.r ≤ 1073741824)
/-- an entry can be -/
def canN (e : En) : Bool := numO e && (decide (e.k = 1) || e.o.isEmpty) && ordO e.o
/-- sums of 32 bytes -/
def Dig (l : List Int) : Prop := l.length = 32 ∧ Byt l
/-- an entry's text -/
def enL (e : En) : List Int := varL e.j ++ (varL e.t ++ (e.H ++ (e.S ++ ([e.k] ++ (varL e.r ++ ([(e.o.length : Int)] ++ e.o))))))
end Go.Proofs.YtipakjenggeflaaGreatDoor
namespace Go.Proofs.YtipakjenggeflaaGreatDoor
open Go.RowKit
set_option linter.unusedVariables false

set_option maxRecDepth 100000 in
theorem wp_alloc_of {o : Oper} {a : Act} {w : World} {K : Act → World → Prop} {Q : Exit → Act → World → Prop} (T : TypeId) (sz : Nat) (ho : o.op = .alloc T) (hz : (Tryz.prog.info? T).map (fun i => i.zero.map (·.cells.size)) = some (some sz))
    (h : ∀ cs : Array Value, cs.size = sz → K (a.put o.dst (.pointer (some ⟨w.heap.size, 0, none⟩))) (w.alloc (.cells cs T))) : o.wp Tryz.prog a w K Q := by
  obtain ⟨it, hit, hz0⟩ := Option.map_eq_some_iff.1 hz
  obtain ⟨z, hzz, hzs⟩ := Option.map_eq_some_iff.1 hz0
  unfold Oper.wp execOp
  simp [ho, Instr.alloc, zeroValue, typeInfo, hit, hzz, newVar, newRow, go_sem]
  exact h _ hzs
set_option maxRecDepth 100000 in
theorem wpList_alloc_of {ops : Array Oper} {rest : List Oper} {o : Oper} {a : Act} {w : World} {Q : Exit → Act → World → Prop} (hgd : o.guard = none) (T : TypeId) (sz : Nat) (ho : o.op = .alloc T) (hz : (Tryz.prog.info? T).map (fun i => i.zero.map (·.cells.size)) = some (some sz))
    (h : ∀ cs : Array Value, cs.size = sz → wpList Tryz.prog ops Q rest (a.put o.dst (.pointer (some ⟨w.heap.size, 0, none⟩))) (w.alloc (.cells cs T))) : wpList Tryz.prog ops Q (o :: rest) a w :=
  wpList_plain hgd fun _ hK => wp_alloc_of T sz ho hz (fun cs hs => hK _ _ (h cs hs))
end Go.Proofs.YtipakjenggeflaaGreatDoor
namespace Go.Proofs.YtipakjenggeflaaGreatDoor
open Go.RowKit
set_option linter.unusedVariables false

/-- an operation -/
structure Opr where
  c : Int
  o : Int
  a : Int
  d : Bool
  r : Int
  f : Int
  t : Int
def op0 : Opr := ⟨0, 0, 0, false, 0, 0, 0⟩
def newO (x : Ev) (i : Nat) : Opr := ⟨x.c, x.o, x.v, false, 0, i, -1⟩
def endO (o : Opr) (v : Int) (i : Nat) : Opr := ⟨o.c, o.o, o.a, true, v, o.f, i⟩
def set1 (x : Ev) (i : Nat) (o : Opr) : Opr := if o.c = x.c ∧ o.d = false then endO o x.v i else o
def setO (O : List Opr) (x : Ev) (i : Nat) : List Opr := O.map (set1 x i)
def stpO (O : List Opr) (i : Nat) (x : Ev) : List Opr := if x.k = true then O ++ [newO x i] else setO O x i
/-- event by event -/
def opsF : List Opr → Nat → List Ev → List Opr
  | O, _, [] => O
  | O, i, x :: t => opsF (stpO O i x) (i + 1) t
def opsL (l : List Ev) : List Opr := opsF [] 0 l
/-- an operation is before another one -/
def befO (a b : Opr) : Bool := a.d && decide (a.t < b.f)
end Go.Proofs.YtipakjenggeflaaGreatDoor
namespace Go.Proofs.YtipakjenggeflaaGreatDoor
open Go.RowKit
set_option linter.unusedVariables false

/-- an instruction -/
structure Ic where
  o : Int
  n : Int
def ic0 : Ic := ⟨0, 0⟩
/-- there is such an instruction -/
def isO (o : Int) : Bool := decide (0 ≤ o) && decide (o ≤ 19)
/-- takes off, puts on, what N may be (0 nothing, 1 any, 2 a cell, 3 a place), how it goes on (0 behind, 1 at N, 2 both, 3 not) -/
def tkO (o : Int) : Int := ([0, 1, 1, 2, 0, 1, 0, 0, 2, 2, 2, 2, 2, 2, 2, 1, 0, 1, 1, 0] : List Int).getD o.toNat 0
def ptO (o : Int) : Int := ([1, 0, 2, 2, 1, 0, 1, 1, 1, 1, 1, 1, 1, 1, 1, 1, 0, 0, 0, 0] : List Int).getD o.toNat 0
def nkO (o : Int) : Int := ([1, 0, 0, 0, 2, 2, 0, 0, 0, 0, 0, 0, 0, 0, 0, 0, 3, 3, 0, 0] : List Int).getD o.toNat 0
def thO (o : Int) : Int := ([0, 0, 0, 0, 0, 0, 0, 0, 0, 0, 0, 0, 0, 0, 0, 0, 1, 2, 3, 3] : List Int).getD o.toNat 0
/-- N may be what it is -/
def numB (x : Ic) (m : Nat) : Bool := if nkO x.o = 1 then true else if nkO x.o = 2 then decide (0 ≤ x.n) && decide (x.n ≤ 3) else if nkO x.o = 3 then decide (0 ≤ x.n) && decide (x.n < (m : Int)) else decide (x.n = 0)
def canI (m : Nat) (x : Ic) : Bool := isO x.o && numB x m
/-- the first place at which Op is none or N can't be, from a place on -/
def badF (m : Nat) : Nat → List Ic → Option Nat
  | _, [] => none
  | i, x :: t => if canI m x = false then some i else badF m (i + 1) t
def badI (l : List Ic) : Option Nat := badF l.length 0 l
/-- a place gets a depth: the depths, the error -/
def lead (D : List Int) (t : Nat) (d : Int) : List Int × Int := if D.length ≤ t then (D, 6) else if D.getD t (-1) = -1 then (D.set t d, 0) else if D.getD t (-1) ≠ d then (D, 16) else (D, 0)
/-- one place is gone through -/
def goS (x : Ic) (D : List Int) (at' : Nat) : List Int × Int :=
  if D.getD at' (-1) < tkO x.o then (D, 3) else
  if 8 < D.getD at' (-1) - tkO x.o + ptO x.o then (D, 11) else
  if thO x.o = 0 then lead D (at' + 1) (D.getD at' (-1) - tkO x.o + ptO x.o) else
  if thO x.o = 1 then lead D x.n.toNat (D.getD at' (-1) - tkO x.o + ptO x.o) else
  if thO x.o = 2 then
    (if (lead D (at' + 1) (D.getD at' (-1) - tkO x.o + ptO x.o)).2 ≠ 0 then lead D (at' + 1) (D.getD at' (-1) - tkO x.o + ptO x.o)
     else lead (lead D (at' + 1) (D.getD at' (-1) - tkO x.o + ptO x.o)).1 x.n.toNat (D.getD at' (-1) - tkO x.o + ptO x.o))
  else (D, 0)
/-- the least place that has a depth and was not gone through, from a place on -/
def nxtF : Nat → List Int → List Bool → Option Nat
  | i, d :: D, g :: G => if g = false ∧ d ≠ -1 then some i else nxtF (i + 1) D G
  | _, _, _ => none
def nxtC (D : List Int) (G : List Bool) : Option Nat := nxtF 0 D G
/-- how many were not gone through -/
def unG : List Bool → Nat
  | [] => 0
  | g :: G => (if g = false then 1 else 0) + unG G
/-- again and again: the depths, the place, the error -/
def thrF (l : List Ic) : Nat → List Int → List Bool → List Int × Nat × Int
  | 0, _, _ => ([], 0, 0)
  | f + 1, D, G => match nxtC D G with
    | none => (D, 0, 0)
    | some p => if (goS (l.getD p ic0) D p).2 ≠ 0 then ([], p, (goS (l.getD p ic0) D p).2) else thrF l f (goS (l.getD p ic0) D p).1 (G.set p true)
/-- all that is still to be gone through -/
def thrR (l : List Ic) (D : List Int) (G : List Bool) : List Int × Nat × Int := thrF l (unG G + 1) D G
/-- at first: place 0 has the depth 0 -/
def D0 (n : Nat) : List Int := (List.replicate n (-1)).set 0 0
def G0 (n : Nat) : List Bool := List.replicate n false
/-- code: the depths, the place, the error -/
def thrC (l : List Ic) : List Int × Nat × Int :=
  if l.length < 1 ∨ 200 < l.length then ([], 0, 5) else
  match badI l with
  | some i => ([], i, 15)
  | none => thrR l (D0 l.length) (G0 l.length)
end Go.Proofs.YtipakjenggeflaaGreatDoor
namespace Go.Proofs.YtipakjenggeflaaGreatDoor
open Go.RowKit
set_option linter.unusedVariables false

section
variable {α : Type} (one : List Int → α × Nat × Int)
/-- so many from a place on: the things, the place behind them, the error -/
def sqF (b : List Int) : Nat → Nat → List α × Nat × Int
  | 0, p => ([], p, 0)
  | n + 1, p => if (one (b.drop p)).2.2 ≠ 0 then ([], 0, (one (b.drop p)).2.2) else
    if (sqF b n (p + (one (b.drop p)).2.1)).2.2 ≠ 0 then ([], 0, (sqF b n (p + (one (b.drop p)).2.1)).2.2) else
    ((one (b.drop p)).1 :: (sqF b n (p + (one (b.drop p)).2.1)).1, (sqF b n (p + (one (b.drop p)).2.1)).2.1, 0)
variable (wr : α → List Int)
variable {one wr}
end
end Go.Proofs.YtipakjenggeflaaGreatDoor
namespace Go.Proofs.YtipakjenggeflaaGreatDoor
open Go.RowKit
set_option linter.unusedVariables false

/-- one instruction: how many bytes, the error -/
def rdI (b : List Int) : Ic × Nat × Int :=
  if b.length = 0 then (ic0, 0, 3) else
  if isO (b.getD 0 0) = false then (ic0, 0, 15) else
  if 0 < nkO (b.getD 0 0) then
    (if (rd (b.drop 1) 0 0).2.2 ≠ 0 then (ic0, 0, (rd (b.drop 1) 0 0).2.2) else (⟨b.getD 0 0, zagV (rd (b.drop 1) 0 0).1⟩, 1 + (rd (b.drop 1) 0 0).2.1.toNat, 0))
  else (⟨b.getD 0 0, 0⟩, 1, 0)
/-- all of a text: the instructions, the place behind them, the error -/
def rdC (b : List Int) : List Ic × Nat × Int := if (rd b 0 0).2.2 ≠ 0 then ([], 0, (rd b 0 0).2.2) else if 200 < (rd b 0 0).1 then ([], 0, 5) else sqF rdI b (rd b 0 0).1.toNat (rd b 0 0).2.1.toNat
/-- what bytes say: the code, the error -/
def rdK (b : List Int) : List Ic × Int := if (rdC b).2.2 ≠ 0 then ([], (rdC b).2.2) else if (rdC b).2.1 < b.length then ([], 6) else if (thrC (rdC b).1).2.2 ≠ 0 then ([], (thrC (rdC b).1).2.2) else ((rdC b).1, 0)
end Go.Proofs.YtipakjenggeflaaGreatDoor
namespace Go.Proofs.YtipakjenggeflaaGreatDoor
open Go.RowKit
set_option linter.unusedVariables false

/-- cells, a stack (the top last), a place -/
structure VS where
  c : List Int
  s : List Int
  p : Nat
/-- the top, the one below it -/
def tpB (v : VS) : Int := v.s.getD (v.s.length - 1) 0
def tpA (v : VS) : Int := v.s.getD (v.s.length - 2) 0
def off (v : VS) (k : Nat) : List Int := v.s.take (v.s.length - k)
/-- modulo 2^64, as an int64 -/
def w64 (x : Int) : Int := (x + 9223372036854775808) % 18446744073709551616 - 9223372036854775808
/-- what two numbers make; nothing: it refuses -/
def jnd (o a b : Int) : Option Int :=
  if o = 8 then some (w64 (a + b)) else if o = 9 then some (w64 (a - b)) else if o = 10 then some (w64 (a * b)) else
  if o = 13 then some (if a < b then 1 else 0) else if o = 14 then some (if a = b then 1 else 0) else
  if b = 0 then none else if b = -1 then (if o = 11 then some (w64 (-a)) else some 0) else
  if o = 11 then some (a.tdiv b) else some (a.tmod b)
/-- one instruction: what there is behind it, whether it ends (0 not, 1 answered, 2 refused), the answer -/
def do1 (x : Ic) (k g : Int) (v : VS) : VS × Int × Int :=
  if x.o = 0 then (⟨v.c, v.s ++ [x.n], v.p + 1⟩, 0, 0) else
  if x.o = 1 then (⟨v.c, off v 1, v.p + 1⟩, 0, 0) else
  if x.o = 2 then (⟨v.c, v.s ++ [tpB v], v.p + 1⟩, 0, 0) else
  if x.o = 3 then (⟨v.c, off v 2 ++ [tpB v, tpA v], v.p + 1⟩, 0, 0) else
  if x.o = 4 then (⟨v.c, v.s ++ [v.c.getD x.n.toNat 0], v.p + 1⟩, 0, 0) else
  if x.o = 5 then (⟨v.c.set x.n.toNat (tpB v), off v 1, v.p + 1⟩, 0, 0) else
  if x.o = 6 then (⟨v.c, v.s ++ [g], v.p + 1⟩, 0, 0) else
  if x.o = 7 then (⟨v.c, v.s ++ [k], v.p + 1⟩, 0, 0) else
  if x.o = 15 then (⟨v.c, off v 1 ++ [if tpB v = 0 then 1 else 0], v.p + 1⟩, 0, 0) else
  if x.o = 16 then (⟨v.c, v.s, x.n.toNat⟩, 0, 0) else
  if x.o = 17 then (⟨v.c, off v 1, if tpB v = 0 then x.n.toNat else v.p + 1⟩, 0, 0) else
  if x.o = 18 then (⟨v.c, off v 1, v.p + 1⟩, 1, tpB v) else
  if x.o = 19 then (⟨v.c, v.s, v.p + 1⟩, 2, 0) else
  match jnd x.o (tpA v) (tpB v) with
  | some y => (⟨v.c, off v 2 ++ [y], v.p + 1⟩, 0, 0)
  | none => (⟨v.c, off v 2, v.p + 1⟩, 2, 0)
/-- so many instructions at most: the kind, the cells, the answer, how many were done -/
def vmF (l : List Ic) (k g : Int) : Nat → VS → Nat → Int × List Int × Int × Nat
  | 0, v, u => (3, v.c, 0, u)
  | f + 1, v, u => if (do1 (l.getD v.p ic0) k g v).2.1 = 0 then vmF l k g f (do1 (l.getD v.p ic0) k g v).1 (u + 1)
    else if (do1 (l.getD v.p ic0) k g v).2.1 = 1 then (1, (do1 (l.getD v.p ic0) k g v).1.c, (do1 (l.getD v.p ic0) k g v).2.2, u + 1)
    else (2, v.c, 0, u + 1)
def vs0 (S : List Int) : VS := ⟨S, [], 0⟩
/-- a step: the kind, the state, the answer, how many were done -/
def stpV (l : List Ic) (S : List Int) (k g f : Int) : Int × List Int × Int × Int :=
  if (thrC l).2.2 ≠ 0 then (4, [0, 0, 0, 0], 0, 0) else
  if (vmF l k g f.toNat (vs0 S) 0).1 = 1 then (1, (vmF l k g f.toNat (vs0 S) 0).2.1, (vmF l k g f.toNat (vs0 S) 0).2.2.1, ((vmF l k g f.toNat (vs0 S) 0).2.2.2 : Int)) else ((vmF l k g f.toNat (vs0 S) 0).1, S, 0, ((vmF l k g f.toNat (vs0 S) 0).2.2.2 : Int))
end Go.Proofs.YtipakjenggeflaaGreatDoor
namespace Go.Proofs.YtipakjenggeflaaGreatDoor
open Go.RowKit
set_option linter.unusedVariables false

def Z4 : List Int := [0, 0, 0, 0]
end Go.Proofs.YtipakjenggeflaaGreatDoor
namespace Go.Proofs.YtipakjenggeflaaGreatDoor
open Go.RowKit
set_option linter.unusedVariables false

/-- what a try comes to -/
abbrev Tr (P : Type) := Option (Option P)
abbrev Tr.fuel {P : Type} : Tr P := none
abbrev Tr.no {P : Type} : Tr P := some none
abbrev Tr.yes {P : Type} (q : P) : Tr P := some (some q)
/-- what is searched -/
structure Sr (P : Type) where
  n : Nat
  full : P → Bool
  free : P → Nat → Bool
  tr : P → Nat → Tr P
  rank : P → Nat
/-- what comes of a position: 0 nothing, 1 fits, 3 no fuel, 4 no tries -/
structure RsL (P : Type) where
  k : Nat
  o : List Nat
  W : List P
  t : Nat
section
variable {P : Type} [DecidableEq P]
/-- place by place -/
def lp (s : Sr P) (B : Nat) (g : P → List Nat → List P → Nat → RsL P) (p : P) (o : List Nat) : List Nat → List P → Nat → RsL P
  | [], W, t => ⟨0, [], W, t⟩
  | i :: is, W, t => if s.free p i = false then lp s B g p o is W t else if t = B then ⟨4, [], W, t⟩ else
    match s.tr p i with
    | none => ⟨3, [], W, t + 1⟩
    | some none => lp s B g p o is W (t + 1)
    | some (some q) => if q ∈ W then lp s B g p o is W (t + 1) else
      if (g q (o ++ [i]) W (t + 1)).k ≠ 0 then g q (o ++ [i]) W (t + 1) else lp s B g p o is (g q (o ++ [i]) W (t + 1)).W (g q (o ++ [i]) W (t + 1)).t
def gsF (s : Sr P) (B : Nat) : Nat → P → List Nat → List P → Nat → RsL P
  | 0, p, o, W, t => ⟨1, o, W ++ [p], t⟩
  | m + 1, p, o, W, t => if s.full p = true then ⟨1, o, W ++ [p], t⟩ else lp s B (gsF s B m) p o (List.range s.n) (W ++ [p]) t
/-- from a position -/
def gs (s : Sr P) (B : Nat) (p : P) (o : List Nat) (W : List P) (t : Nat) : RsL P := gsF s B (s.rank p) p o W t
end
end Go.Proofs.YtipakjenggeflaaGreatDoor
namespace Go.Proofs.YtipakjenggeflaaGreatDoor
open Go.RowKit
set_option linter.unusedVariables false
section
variable {P : Type} [DecidableEq P]

/-- a position where it is, the places in it, those still to be tried -/
structure Fm (P : Type) where
  p : P
  o : List Nat
  is : List Nat
/-- those that are not to be tried are passed by -/
def dw (s : Sr P) (p : P) (is : List Nat) : List Nat := is.dropWhile fun i => !s.free p i
def stl (s : Sr P) : List (Fm P) → List (Fm P)
  | [] => []
  | f :: K => if dw s f.p f.is = [] then stl s K else ⟨f.p, f.o, dw s f.p f.is⟩ :: K
/-- where it stands: over (0: no), the order, the rest -/
structure Ss (P : Type) where
  ov : Nat
  o : List Nat
  K : List (Fm P)
  W : List P
  t : Nat
def mkS (s : Sr P) (K : List (Fm P)) (W : List P) (t : Nat) : Ss P := if stl s K = [] then ⟨2, [], [], W, t⟩ else ⟨0, [], stl s K, W, t⟩
/-- the try of a place -/
def tr1 (s : Sr P) (p : P) (o : List Nat) (i : Nat) (is : List Nat) (K : List (Fm P)) (W : List P) (t : Nat) : Ss P :=
  match s.tr p i with
  | none => ⟨3, [], [], W, t + 1⟩
  | some none => mkS s (⟨p, o, is⟩ :: K) W (t + 1)
  | some (some q) => if q ∈ W then mkS s (⟨p, o, is⟩ :: K) W (t + 1) else
    if s.full q = true then ⟨1, o ++ [i], [], W ++ [q], t + 1⟩ else mkS s (⟨q, o ++ [i], List.range s.n⟩ :: ⟨p, o, is⟩ :: K) (W ++ [q]) (t + 1)
/-- one try -/
def st1 (s : Sr P) (x : Ss P) : Ss P :=
  if x.ov ≠ 0 then x else
  match x.K with
  | [] => x
  | ⟨_, _, []⟩ :: _ => x
  | ⟨p, o, i :: is⟩ :: K => tr1 s p o i is K x.W x.t
def beg (s : Sr P) (p0 : P) : Ss P := if s.full p0 = true then ⟨1, [], [], [p0], 0⟩ else mkS s [⟨p0, [], List.range s.n⟩] [p0] 0
/-- so many tries -/
def sqS (s : Sr P) (p0 : P) : Nat → Ss P
  | 0 => beg s p0
  | k + 1 => st1 s (sqS s p0 k)
end
end Go.Proofs.YtipakjenggeflaaGreatDoor
namespace Go.Proofs.YtipakjenggeflaaGreatDoor
open Go.RowKit
set_option linter.unusedVariables false

/-- which operations are in, the cells behind them -/
abbrev Po := List Bool × List Int
abbrev Po.I (p : Po) : List Bool := p.1
abbrev Po.S (p : Po) : List Int := p.2
def inP (p : Po) (i : Nat) : Bool := p.I.getD i false
def putP (n : Nat) (I : List Bool) (i : Nat) : List Bool := (List.range n).map fun j => j == i || I.getD j false
def opN (ops : List Opr) (i : Nat) : Opr := ops.getD i op0
def stN (l : List Ic) (f : Int) (ops : List Opr) (S : List Int) (i : Nat) : Int × List Int × Int × Int := stpV l S (opN ops i).o (opN ops i).a f
/-- whether it may not go on there -/
abbrev badN (l : List Ic) (f : Int) (ops : List Opr) (S : List Int) (i : Nat) : Prop := (stN l f ops S i).1 ≠ 1 ∨ ((opN ops i).d = true ∧ (opN ops i).r ≠ (stN l f ops S i).2.2.1)
def srO (l : List Ic) (f : Int) (ops : List Opr) : Sr Po where
  n := ops.length
  full p := (List.range ops.length).all fun i => !(opN ops i).d || inP p i
  free p i := decide (i < ops.length) && !inP p i && (List.range ops.length).all fun k => inP p k || !befO (opN ops k) (opN ops i)
  tr p i := if (stN l f ops p.S i).1 = 3 then .fuel else if badN l f ops p.S i then .no else .yes ⟨putP ops.length p.I i, (stN l f ops p.S i).2.1⟩
  rank p := ((List.range ops.length).filter fun i => !inP p i).length
def po0 (n : Nat) : Po := ⟨List.replicate n false, Z4⟩
end Go.Proofs.YtipakjenggeflaaGreatDoor
namespace Go.Proofs.YtipakjenggeflaaGreatDoor
open Go.RowKit
set_option linter.unusedVariables false

/-- what a search tells: the kind -/
def vdK {P : Type} (r : RsL P) : Nat := if r.k = 0 then 2 else r.k
/-- what a search comes to -/
def vdR (l : List Ic) (fu bu : Int) (ops : List Opr) : RsL Po := gs (srO l fu ops) bu.toNat (po0 ops.length) [] [] 0
section
variable {P : Type} [DecidableEq P] {s : Sr P} {p0 : P} {B : Nat}
/-- it is over behind so many tries -/
def stopS (s : Sr P) (p0 : P) (B j : Nat) : Bool := decide ((sqS s p0 j).ov ≠ 0) || decide (j = B)
/-- it may stand there -/
def Tk (s : Sr P) (p0 : P) (B k : Nat) : Prop := k ≤ B ∧ ∀ j, j < k → stopS s p0 B j = false
end
end Go.Proofs.YtipakjenggeflaaGreatDoor
namespace Go.Proofs.YtipakjenggeflaaGreatDoor
open Go.RowKit
set_option linter.unusedVariables false

/-- one shift of the sum's register -/
def crT (c : BitVec 32) : BitVec 32 := (c >>> 1) ^^^ (if c.getLsbD 0 then (BitVec.ofNat 32 0xedb88320) else (BitVec.ofNat 32 0))
/-- n shifts -/
def crN : Nat → BitVec 32 → BitVec 32
  | 0, c => c
  | n + 1, c => crN n (crT c)
/-- the register behind bytes -/
def crcS (c : BitVec 32) : List Int → BitVec 32
  | [] => c
  | b :: l => crcS (crN 8 (c ^^^ BitVec.ofNat 32 b.toNat)) l
/-- the sum -/
def crO : BitVec 32 := (BitVec.ofNat 32 0xffffffff)
def crcL (l : List Int) : BitVec 32 := crcS crO l ^^^ crO
/-- a sum as bytes, the lowest first -/
def four (n : Nat) : List Int := [((n % 256 : Nat) : Int), ((n / 256 % 256 : Nat) : Int), ((n / 65536 % 256 : Nat) : Int), ((n / 16777216 % 256 : Nat) : Int)]
set_option maxRecDepth 100000 in
theorem four_byt (n : Nat) : Byt (four n) := by
  intro c hc
  simp only [four, List.mem_cons, List.not_mem_nil, or_false] at hc
  rcases hc with rfl | rfl | rfl | rfl <;> omega
end Go.Proofs.YtipakjenggeflaaGreatDoor
namespace Go.Proofs.YtipakjenggeflaaGreatDoor
open Go.RowKit
set_option linter.unusedVariables false

set_option maxRecDepth 100000 in
theorem getV_putL (x : Int) (n : Nat) (h0 : 0 ≤ x) : getV (putL x n) = x % 256 ^ n := by
  suffices H : ∀ (n : Nat) (acc : Int), (putL x n).foldl (fun y c => 256 * y + c) acc = acc * 256 ^ n + x % 256 ^ n by
    have := H n 0; unfold getV; rw [this]; omega
  intro n
  induction n with
  | zero => intro acc; simp [putL, Int.emod_one]
  | succ n ih =>
    intro acc
    show (putL x n).foldl _ (256 * acc + sh x n % 256) = _
    rw [ih, Int.pow_succ]
    unfold sh
    have hp : (0 : Int) < 256 ^ n := Int.pow_pos (by decide)
    generalize (256 : Int) ^ n = P at *
    have e1 := Int.emod_add_mul_ediv x P
    have e2 := Int.emod_add_mul_ediv (x / P) 256
    have r1 := Int.emod_nonneg x (Int.ne_of_gt hp)
    have r2 := Int.emod_lt_of_pos x hp
    have hx : x = (x % P + P * (x / P % 256)) + (P * 256) * (x / P / 256) := by
      conv => lhs; rw [← e1, ← e2]
      rw [Int.mul_add, Int.mul_assoc, Int.add_assoc]
    have q0 : 0 ≤ x / P % 256 := Int.emod_nonneg _ (by decide)
    have q1 : x / P % 256 ≤ 255 := by have := Int.emod_lt_of_pos (x / P) (show (0 : Int) < 256 by decide); omega
    have m0 : 0 ≤ P * (x / P % 256) := Int.mul_nonneg (Int.le_of_lt hp) q0
    have m1 : P * (x / P % 256) ≤ P * 255 := Int.mul_le_mul_of_nonneg_left q1 (Int.le_of_lt hp)
    have hm : x % (P * 256) = x % P + P * (x / P % 256) := by
      conv => lhs; rw [hx]
      rw [Int.add_mul_emod_self_left, Int.emod_eq_of_lt (by omega) (by omega)]
    rw [hm, Int.add_mul, Int.mul_comm 256 acc, Int.mul_assoc, Int.mul_comm 256 P, Int.mul_comm (x / P % 256) P]
    omega
set_option maxRecDepth 100000 in
/-- bytes put together are the bytes again -/
theorem getV_cons (c : Int) (l : List Int) : getV (c :: l) = c * 256 ^ l.length + getV l := by
  suffices H : ∀ (l : List Int) (a : Int), l.foldl (fun x c => 256 * x + c) a = a * 256 ^ l.length + l.foldl (fun x c => 256 * x + c) 0 by
    have := H l (256 * 0 + c); unfold getV; rw [List.foldl_cons, this]; simp
  intro l
  induction l with
  | nil => intro a; simp
  | cons d l ih =>
    intro a
    rw [List.foldl_cons, List.foldl_cons, ih (256 * a + d), ih (256 * 0 + d), List.length_cons, Int.pow_succ, Int.add_mul, Int.mul_comm 256 a, Int.mul_assoc, Int.mul_comm 256 (256 ^ l.length)]
    simp; omega
set_option maxRecDepth 100000 in
theorem putL_getV : ∀ (l : List Int), Byt l → ∀ k : Int, putL (k * 256 ^ l.length + getV l) l.length = l := by
  intro l
  induction l with
  | nil => intro _ _; rfl
  | cons c l ih =>
    intro h k
    have hc := h c (by simp)
    have hl : Byt l := fun d hd => h d (by simp [hd])
    have hb := getV_bd l hl
    have hp : (0 : Int) < 256 ^ l.length := Int.pow_pos (by decide)
    rw [getV_cons, List.length_cons]
    show sh _ l.length % 256 :: putL _ l.length = _
    have e : k * 256 ^ (l.length + 1) + (c * 256 ^ l.length + getV l) = (k * 256 + c) * 256 ^ l.length + getV l := by
      rw [Int.pow_succ, Int.add_mul, Int.mul_comm (256 ^ l.length) 256, Int.mul_assoc]; omega
    rw [e, ih hl (k * 256 + c)]
    congr 1
    unfold sh
    rw [Int.add_comm, Int.add_mul_ediv_right _ _ (Int.ne_of_gt hp), Int.ediv_eq_zero_of_lt hb.1 hb.2]
    omega
/-- a sum as a number -/
def crcN (l : List Int) : Nat := (crcL l).toNat
/-- a frame's head: how many bytes, and the number -/
def headLF (n : Nat) (seq : Int) : List Int := putL (n : Int) 4 ++ putL seq 8
/-- a frame -/
def frmL (seq : Int) (b : List Int) : List Int := headLF b.length seq ++ (four (crcN (headLF b.length seq)) ++ (b ++ four (crcN b)))
set_option maxRecDepth 100000 in
theorem headL_lenF (n : Nat) (seq : Int) : (headLF n seq).length = 12 := by unfold headLF; rw [List.length_append, putL_length, putL_length]
set_option maxRecDepth 100000 in
theorem headL_bytF (n : Nat) (seq : Int) : Byt (headLF n seq) := (putL_byt _ _).append (putL_byt _ _)
set_option maxRecDepth 100000 in
theorem four_len (n : Nat) : (four n).length = 4 := rfl
set_option maxRecDepth 100000 in
theorem frmL_len (seq : Int) (b : List Int) : (frmL seq b).length = 20 + b.length := by
  unfold frmL; rw [List.length_append, List.length_append, List.length_append, headL_lenF, four_len, four_len]; omega
set_option maxRecDepth 100000 in
theorem frmL_byt (seq : Int) (b : List Int) (h : Byt b) : Byt (frmL seq b) := (headL_bytF _ _).append ((four_byt _).append (h.append (four_byt _)))
/-- how many bytes a head says -/
def rdCF (b : List Int) : Nat := (getV (b.take 4)).toNat
/-- what reading answers: the error -/
def rdE (b : List Int) : Int :=
  if b.length < 16 then 3
  else if (b.drop 12).take 4 ≠ four (crcN (b.take 12)) then 13
  else if getV ((b.drop 4).take 8) = 0 then 4
  else if 16384 < getV (b.take 4) then 5
  else if b.length < 20 + rdCF b then 3
  else if (b.drop (16 + rdCF b)).take 4 ≠ four (crcN ((b.drop 16).take (rdCF b))) then 13
  else 0
/-- .. the number, the text, how many bytes -/
def rdS (b : List Int) : Int := if rdE b = 0 then getV ((b.drop 4).take 8) else 0
def rdT (b : List Int) : List Int := if rdE b = 0 then (b.drop 16).take (rdCF b) else []
def rdNF (b : List Int) : Nat := if rdE b = 0 then 20 + rdCF b else 0
set_option maxRecDepth 100000 in
theorem rdE_ok (b : List Int) : rdE b = 0 ↔ 16 ≤ b.length ∧ (b.drop 12).take 4 = four (crcN (b.take 12)) ∧ getV ((b.drop 4).take 8) ≠ 0 ∧ getV (b.take 4) ≤ 16384 ∧ 20 + rdCF b ≤ b.length ∧ (b.drop (16 + rdCF b)).take 4 = four (crcN ((b.drop 16).take (rdCF b))) := by
  unfold rdE
  constructor
  · intro h
    split at h
    · cases h
    · split at h
      · cases h
      · rename_i h1 h2
        split at h
        · cases h
        · rename_i h3
          split at h
          · cases h
          · rename_i h4
            split at h
            · cases h
            · rename_i h5
              split at h
              · cases h
              · rename_i h6
                exact ⟨by omega, Classical.not_not.1 h2, h3, by omega, by omega, Classical.not_not.1 h6⟩
  · rintro ⟨h1, h2, h3, h4, h5, h6⟩
    rw [if_neg (by omega), if_neg (fun h => h h2), if_neg h3, if_neg (by omega), if_neg (by omega), if_neg (fun h => h h6)]
set_option maxRecDepth 100000 in
/-- the pieces of what begins with a frame -/
theorem frm_parts (seq : Int) (b z : List Int) (h0 : 0 ≤ seq) (h64 : seq < 18446744073709551616) (hb : b.length ≤ 16384) :
    (frmL seq b ++ z).take 12 = headLF b.length seq ∧ ((frmL seq b ++ z).drop 12).take 4 = four (crcN (headLF b.length seq)) ∧ getV ((frmL seq b ++ z).take 4) = (b.length : Int) ∧ getV (((frmL seq b ++ z).drop 4).take 8) = seq ∧
    rdCF (frmL seq b ++ z) = b.length ∧ ((frmL seq b ++ z).drop 16).take b.length = b ∧ ((frmL seq b ++ z).drop (16 + b.length)).take 4 = four (crcN b) := by
  have hh := headL_lenF b.length seq
  have hf := four_len (crcN (headLF b.length seq))
  have hg := four_len (crcN b)
  have e : frmL seq b ++ z = headLF b.length seq ++ (four (crcN (headLF b.length seq)) ++ (b ++ (four (crcN b) ++ z))) := by unfold frmL; simp
  have e4 : getV ((frmL seq b ++ z).take 4) = (b.length : Int) := by
    rw [e, List.take_append_of_le_length (by rw [hh]; decide)]
    unfold headLF
    rw [List.take_append_of_le_length (by rw [putL_length]; exact Nat.le_refl _), List.take_of_length_le (by rw [putL_length]; exact Nat.le_refl _), getV_putL _ _ (by omega)]
    exact Int.emod_eq_of_lt (by omega) (by omega)
  have e8 : getV (((frmL seq b ++ z).drop 4).take 8) = seq := by
    rw [e, List.drop_append_of_le_length (by rw [hh]; decide)]
    have hd : (headLF b.length seq).drop 4 = putL seq 8 := by
      unfold headLF
      rw [List.drop_append_of_le_length (by rw [putL_length]; exact Nat.le_refl _), List.drop_of_length_le (by rw [putL_length]; exact Nat.le_refl _)]; rfl
    rw [hd, List.take_append_of_le_length (by rw [putL_length]; exact Nat.le_refl _), List.take_of_length_le (by rw [putL_length]; exact Nat.le_refl _), getV_putL _ _ h0]
    exact Int.emod_eq_of_lt h0 (by omega)
  refine ⟨?_, ?_, e4, e8, by unfold rdCF; rw [e4]; omega, ?_, ?_⟩
  · rw [e, List.take_append_of_le_length (by rw [hh]; exact Nat.le_refl _), List.take_of_length_le (by rw [hh]; exact Nat.le_refl _)]
  · rw [e, show (12 : Nat) = (headLF b.length seq).length from hh.symm, List.drop_left, List.take_append_of_le_length (by rw [hf]; exact Nat.le_refl _), List.take_of_length_le (by rw [hf]; exact Nat.le_refl _)]
  · rw [e, ← List.append_assoc, show (16 : Nat) = (headLF b.length seq ++ four (crcN (headLF b.length seq))).length from by rw [List.length_append, hh, hf], List.drop_left, List.take_left]
  · rw [e, ← List.append_assoc, ← List.append_assoc, show 16 + b.length = (headLF b.length seq ++ four (crcN (headLF b.length seq)) ++ b).length from by rw [List.length_append, List.length_append, hh, hf], List.drop_left, List.take_append_of_le_length (by rw [hg]; exact Nat.le_refl _), List.take_of_length_le (by rw [hg]; exact Nat.le_refl _)]
set_option maxRecDepth 100000 in
/-- what is put is read, whatever stands behind -/
theorem rd_back (seq : Int) (b z : List Int) (h1 : 1 ≤ seq) (h64 : seq < 18446744073709551616) (hb : b.length ≤ 16384) : rdE (frmL seq b ++ z) = 0 ∧ rdS (frmL seq b ++ z) = seq ∧ rdT (frmL seq b ++ z) = b ∧ rdNF (frmL seq b ++ z) = 20 + b.length := by
  obtain ⟨p1, p2, p3, p4, p5, p6, p7⟩ := frm_parts seq b z (by omega) h64 hb
  have hl : (frmL seq b ++ z).length = 20 + b.length + z.length := by rw [List.length_append, frmL_len]
  have h0 : rdE (frmL seq b ++ z) = 0 := (rdE_ok _).2 ⟨by omega, by rw [p1, p2], by rw [p4]; omega, by rw [p3]; omega, by rw [p5]; omega, by rw [p5, p6, p7]⟩
  refine ⟨h0, ?_, ?_, ?_⟩
  · unfold rdS; rw [if_pos h0, p4]
  · unfold rdT; rw [if_pos h0, p5, p6]
  · unfold rdNF; rw [if_pos h0, p5]
set_option maxRecDepth 100000 in
/-- what is read, put again, is the bytes -/
theorem rd_one (b : List Int) (hB : Byt b) (h : rdE b = 0) : frmL (rdS b) (rdT b) = b.take (rdNF b) ∧ 1 ≤ rdS b ∧ rdS b < 18446744073709551616 ∧ (rdT b).length ≤ 16384 ∧ rdNF b ≤ b.length ∧ (rdT b).length = rdCF b := by
  obtain ⟨h1, h2, h3, h4, h5, h6⟩ := (rdE_ok b).1 h
  have b4 := getV_bd (b.take 4) (hB.take 4)
  have hB8 : Byt ((b.drop 4).take 8) := fun c hc => hB c (List.mem_of_mem_drop (List.mem_of_mem_take hc))
  have b8 := getV_bd ((b.drop 4).take 8) hB8
  have l8 : ((b.drop 4).take 8).length = 8 := by rw [List.length_take, List.length_drop]; omega
  have l4 : (b.take 4).length = 4 := by rw [List.length_take]; omega
  rw [l8] at b8
  have hT : (rdT b).length = rdCF b := by unfold rdT; rw [if_pos h, List.length_take, List.length_drop]; omega
  have hC : ((rdCF b : Nat) : Int) = getV (b.take 4) := by unfold rdCF; omega
  have hS : rdS b = getV ((b.drop 4).take 8) := by unfold rdS; rw [if_pos h]
  have hTe : rdT b = (b.drop 16).take (rdCF b) := by unfold rdT; rw [if_pos h]
  have hN : rdNF b = 20 + rdCF b := by unfold rdNF; rw [if_pos h]
  have q4 := putL_getV (b.take 4) (hB.take 4) 0
  have q8 := putL_getV ((b.drop 4).take 8) hB8 0
  rw [l4, Int.zero_mul, Int.zero_add] at q4
  rw [l8, Int.zero_mul, Int.zero_add] at q8
  have hH : headLF (rdT b).length (rdS b) = b.take 12 := by
    unfold headLF
    rw [hT, hC, hS, q4, q8, ← List.take_add]
  refine ⟨?_, by rw [hS]; omega, by rw [hS]; omega, by rw [hT]; omega, by rw [hN]; exact h5, hT⟩
  unfold frmL
  rw [hH, ← h2, hTe, ← h6, hN]
  have e1 : b.take 12 ++ (b.drop 12).take 4 = b.take 16 := (List.take_add).symm
  have e2 : b.take 16 ++ (b.drop 16).take (rdCF b) = b.take (16 + rdCF b) := (List.take_add).symm
  have e3 : b.take (16 + rdCF b) ++ (b.drop (16 + rdCF b)).take 4 = b.take (16 + rdCF b + 4) := (List.take_add).symm
  rw [← List.append_assoc, ← List.append_assoc, e1, e2, e3, show 16 + rdCF b + 4 = 20 + rdCF b from by omega]
end Go.Proofs.YtipakjenggeflaaGreatDoor
namespace Go.Proofs.YtipakjenggeflaaGreatDoor
open Go.RowKit
set_option linter.unusedVariables false

/-- a sector's bytes -/
def SxD (l : List Int) : Prop := l.length = 64 ∧ Byt l
def Sxl (L : List (List Int)) : Prop := ∀ d ∈ L, SxD d
def s0 : List Int := List.replicate 64 0
set_option maxRecDepth 100000 in
theorem s0_sx : SxD s0 := ⟨by simp [s0], fun c hc => by rw [List.eq_of_mem_replicate hc]; decide⟩
set_option maxRecDepth 100000 in
theorem Sxl.set {L : List (List Int)} (h : Sxl L) (k : Nat) {Z : List Int} (hZ : SxD Z) : Sxl (L.set k Z) := fun d hd => by
  rcases List.mem_or_eq_of_mem_set hd with h1 | h1
  · exact h d h1
  · rw [h1]; exact hZ
set_option maxRecDepth 100000 in
theorem Sxl.getD {L : List (List Int)} (h : Sxl L) (k : Nat) (hk : k < L.length) : SxD (L.getD k []) := by
  rw [List.getD_eq_getElem?_getD, List.getElem?_eq_getElem hk]; exact h _ (List.getElem_mem hk)
set_option maxRecDepth 100000 in
theorem sxl_rep (n : Nat) : Sxl (List.replicate n s0) := fun d hd => by rw [List.eq_of_mem_replicate hd]; exact s0_sx
/-- bytes, and noughts behind them up to 64 -/
def pad64 (b : List Int) : List Int := b ++ List.replicate (64 - b.length) 0
set_option maxRecDepth 100000 in
theorem pad64_sx {b : List Int} (hb : Byt b) (h : b.length ≤ 64) : SxD (pad64 b) :=
  ⟨by simp [pad64]; omega, hb.append (fun c hc => by rw [List.eq_of_mem_replicate hc]; decide)⟩
/-- what open writes make of sectors -/
def app (F : List (List Int)) : List (Nat × List Int) → List (List Int)
  | [] => F
  | o :: r => app (F.set o.1 o.2) r
set_option maxRecDepth 100000 in
theorem app_append (F : List (List Int)) (O P : List (Nat × List Int)) : app F (O ++ P) = app (app F O) P := by
  induction O generalizing F with
  | nil => rfl
  | cons o r ih => exact ih _
set_option maxRecDepth 100000 in
theorem app_len (F : List (List Int)) (O : List (Nat × List Int)) : (app F O).length = F.length := by
  induction O generalizing F with
  | nil => rfl
  | cons o r ih => rw [app, ih, List.length_set]
/-- each open write is of a sector that there is, and has 64 bytes -/
def OOk (n : Nat) (O : List (Nat × List Int)) : Prop := ∀ p ∈ O, p.1 < n ∧ SxD p.2
set_option maxRecDepth 100000 in
theorem app_sx {F : List (List Int)} {n : Nat} {O : List (Nat × List Int)} (h : Sxl F) (ho : OOk n O) : Sxl (app F O) := by
  induction O generalizing F with
  | nil => exact h
  | cons o r ih => exact ih (h.set _ (ho o (by simp)).2) (fun p hp => ho p (by simp [hp]))
/-- the writes that are kept -/
def kpt : List (Nat × List Int) → List Bool → List (Nat × List Int)
  | [], _ => []
  | _ :: _, [] => []
  | o :: r, b :: k => if b then o :: kpt r k else kpt r k
set_option maxRecDepth 100000 in
theorem kpt_mem (O : List (Nat × List Int)) (K : List Bool) : ∀ p ∈ kpt O K, p ∈ O := by
  induction O generalizing K with
  | nil => intro p hp; cases hp
  | cons o r ih =>
    intro p hp
    cases K with
    | nil => cases hp
    | cons b k =>
      unfold kpt at hp
      by_cases hb : b = true
      · rw [if_pos hb] at hp
        rcases List.mem_cons.1 hp with h | h
        · rw [h]; simp
        · simp [ih k p h]
      · rw [if_neg hb] at hp; simp [ih k p hp]
set_option maxRecDepth 100000 in
theorem app_round (F : List (List Int)) (O : List (Nat × List Int)) (k : Nat) (o : Nat × List Int) (ho : O[k]? = some o) : app F (O.drop k) = app (F.set o.1 o.2) (O.drop (k + 1)) := by
  have hk : k < O.length := (List.getElem?_eq_some_iff.1 ho).1
  have ho2 : O[k] = o := (List.getElem?_eq_some_iff.1 ho).2
  rw [List.drop_eq_getElem_cons hk, ho2]; rfl
/-- a disk -/
structure DS where
  F : List (List Int)
  O : List (Nat × List Int)
  armed : Bool
  left : Int
  off : Bool
structure DS.Ok (s : DS) : Prop where
  n1 : 1 ≤ s.F.length
  n2 : s.F.length ≤ 4096
  f : Sxl s.F
  o : OOk s.F.length s.O
  left : 0 ≤ s.left ∧ s.left ≤ 9223372036854775807
def DS.now (s : DS) : List (List Int) := app s.F s.O
def dnew (n : Nat) : DS := ⟨List.replicate n s0, [], false, 0, false⟩
set_option maxRecDepth 100000 in
theorem dnew_ok {n : Nat} (h1 : 1 ≤ n) (h2 : n ≤ 4096) : (dnew n).Ok :=
  ⟨by simp [dnew]; omega, by simp [dnew]; omega, sxl_rep n, by intro p hp; simp [dnew] at hp, by simp [dnew]⟩
/-- the power goes off with the next step -/
def DS.last (s : DS) : Bool := s.armed && decide (s.left = 0)
def DS.dead (s : DS) : DS := { s with off := true }
def DS.tick (s : DS) : DS := { s with left := if s.armed then s.left - 1 else s.left }
def DS.fits (s : DS) (x : Int) (b : List Int) : Bool := decide (0 ≤ x) && decide (x < (s.F.length : Int)) && decide (b.length ≤ 64)
def DS.wrE (s : DS) (x : Int) (b : List Int) : Int := if s.off then 14 else if s.fits x b then (if s.last then 14 else 0) else 2
def DS.wr (s : DS) (x : Int) (b : List Int) : DS := if s.off then s else if s.fits x b then (if s.last then s.dead else { s.tick with O := s.O ++ [(x.toNat, pad64 b)] }) else s
def DS.syE (s : DS) : Int := if s.off then 14 else if s.last then 14 else 0
def DS.sy (s : DS) : DS := if s.off then s else if s.last then s.dead else { s.tick with F := app s.F s.O, O := [] }
def DS.rdE (s : DS) (x : Int) : Int := if s.off then 14 else if decide (0 ≤ x) && decide (x < (s.F.length : Int)) then 0 else 2
def DS.rdL (s : DS) (x : Int) : List Int := if s.off then [] else if decide (0 ≤ x) && decide (x < (s.F.length : Int)) then s.now.getD x.toNat [] else []
set_option maxRecDepth 100000 in
theorem DS.last_pos {s : DS} (h : s.Ok) (hl : s.last = false) (ha : s.armed = true) : 1 ≤ s.left := by
  have := h.left.1
  unfold DS.last at hl
  rw [ha] at hl
  have : s.left ≠ 0 := by simpa using hl
  omega
set_option maxRecDepth 100000 in
theorem DS.fits_iff {s : DS} {x : Int} {b : List Int} : s.fits x b = true ↔ 0 ≤ x ∧ x < s.F.length ∧ b.length ≤ 64 := by simp [DS.fits, and_assoc]
end Go.Proofs.YtipakjenggeflaaGreatDoor
namespace Go.Proofs.YtipakjenggeflaaGreatDoor
open Go.RowKit
set_option linter.unusedVariables false

set_option maxRecDepth 100000 in
theorem fold_set0 : ∀ (l : List Value) (k : Nat) (cs : Array Value), k + l.length ≤ cs.size →
    ((l.zipIdx k).foldl (fun (cs : Array Value) (p : Value × Nat) => cs.setIfInBounds (0 + p.2) p.1) cs).size = cs.size ∧ ∀ j, ((l.zipIdx k).foldl (fun (cs : Array Value) (p : Value × Nat) => cs.setIfInBounds (0 + p.2) p.1) cs)[j]? = if k ≤ j ∧ j < k + l.length then l[j - k]? else cs[j]? := by
  intro l
  induction l with
  | nil => intro k cs _; exact ⟨rfl, fun j => by rw [if_neg (by rw [List.length_nil]; omega)]; rfl⟩
  | cons v r ih =>
    intro k cs hl
    rw [List.length_cons] at hl
    rw [List.zipIdx_cons, List.foldl_cons]
    obtain ⟨h1, h2⟩ := ih (k + 1) (cs.setIfInBounds (0 + k) v) (by simp; omega)
    refine ⟨by rw [h1]; simp, fun j => ?_⟩
    rw [h2 j, List.length_cons]
    by_cases hj : j = k
    · subst hj
      rw [if_neg (by omega), if_pos (by omega), Array.getElem?_setIfInBounds, Nat.zero_add, if_pos rfl, if_pos (by omega), Nat.sub_self]; rfl
    · by_cases hj2 : k + 1 ≤ j ∧ j < k + 1 + r.length
      · rw [if_pos hj2, if_pos (by omega), show j - k = j - (k + 1) + 1 from by omega]; simp
      · rw [if_neg hj2, if_neg (by omega)]
        simp [Ne.symm hj]
set_option maxRecDepth 100000 in
/-- a list of one element that has many cells, written out -/
theorem build_one_of (T E : TypeId) (sz : Nat) (i0 : TypeInfo) (z : Array Value) (hT : Tryz.prog.underlying T = some (.slice E)) (hi : Tryz.prog.info? E = some i0) (hz0 : i0.zero = some (.agg z)) (hz1 : i0.size = sz) (hzb : i0.bytes * 1 ≤ 281474976710656) (hp : 0 < sz) (hp2 : sz ≤ 16777216) (R : List Value) (hR : R.length = sz) (w : World) : (Instr.buildSlice T 1 #[(0, .agg R.toArray)]).run Tryz.prog w = .ok (.slice (some ⟨w.heap.size, 0, none⟩) 1 1) (w.alloc (.cells R.toArray E)) := by
  have hs : R.toArray.size = sz := by rw [List.size_toArray, hR]
  have hz : (zeroValue E).run Tryz.prog w = .ok (.agg z) w := by simp [zeroValue, typeInfo, hi, hz0]
  have hsz : (Go.sizeOf E).run Tryz.prog w = .ok sz w := by simp [Go.sizeOf, typeInfo, hi, hz1]
  have hu := run_underlying (P := Tryz.prog) (w := w) hT
  have hfill : Instr.fill (fun i => some (i * sz, sz)) ((Array.range sz).map ((Value.agg z).cells[· % (Value.agg z).cells.size]!)) [(0, .agg R.toArray)] = some R.toArray := by
    have hc : (Value.agg R.toArray).cells = R.toArray := rfl
    have hm : ((Array.range sz).map ((Value.agg z).cells[· % (Value.agg z).cells.size]!)).size = sz := by simp
    generalize (Array.range sz).map ((Value.agg z).cells[· % (Value.agg z).cells.size]!) = zs at hm
    simp only [Instr.fill, hc, hs, hm]
    rw [if_neg (by simp)]
    congr 1
    obtain ⟨h1, h2⟩ := fold_set0 R 0 zs (by rw [hR, hm]; omega)
    apply Array.ext_getElem?
    intro j
    have h3 := h2 j
    rw [List.size_toArray] at hs
    have hzi : R.toArray.zipIdx = (R.zipIdx).toArray := by simp
    rw [hzi]
    simp only [Nat.zero_mul, List.foldl_toArray]
    rw [h3]
    by_cases hj : j < sz
    · rw [if_pos (by omega), Nat.sub_zero]; simp
    · rw [if_neg (by omega), Array.getElem?_eq_none (by omega), Array.getElem?_eq_none (by rw [List.size_toArray]; omega)]
  simp only [Instr.buildSlice, Sem.run_bind, hu, hsz, Result.andThen_ok]
  rw [if_neg (by omega), if_neg (by omega)]
  simp only [Sem.run_bind, hz, Result.andThen_ok, Nat.one_mul, Sem.run_pure]
  rw [hfill]
  simp [newRow, go_sem]
end Go.Proofs.YtipakjenggeflaaGreatDoor
namespace Go.Proofs.YtipakjenggeflaaGreatDoor
open Go.RowKit
set_option linter.unusedVariables false

section
variable {P : Type} {s : Sr P}
/-- frames (the top first) and the places in the order in which they were put in -/
def kOf (n : Nat) (o : List Nat) : List (P × Nat) → List (Fm P)
  | [] => []
  | (p, k) :: T => ⟨p, o.take T.length, (List.range n).drop k⟩ :: kOf n o T
end
end Go.Proofs.YtipakjenggeflaaGreatDoor
