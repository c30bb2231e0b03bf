/- slices.Chunk: the pieces of bytes, one behind the other. -/
import Derived.Test.YtjlclgmbenhakaaDoorCPutC
import Derived.Test.YtjlclgmbenhakaaDoorSlc
import Derived.RangeFuncNested
import Derived.RangeFuncBound
import Derived.RangeFuncCalls
import Derived.RangeFuncLeaves
import Derived.RangeFuncBox
import Derived.RangeFuncWrites
import Derived.Shelf.Abstract
import Derived.Shelf.RegionOpen
import Derived.OwnWalkIn
import Derived.TacticsInMore
import Derived.LoopNIn
import Derived.LoopIn
import Derived.BigFrameIn
import Derived.BigGuardIn
import Derived.BigGuardPartIn
import Derived.BigRegionIn
import Derived.Sort.QuietIn
namespace Go.Proofs.YtjlclgmbenhakaaDoor
open Go.RowKit Go.Shelf
attribute [local go_sem] Oper.semAt_some

/-- a piece: its number -/
structure Pc (len size : Nat) where
  k : Nat
  lt : k * size < len
/-- where a piece ends -/
def pcE (len size k : Nat) : Nat := min (k * size + size) len
/-- a piece as it is handed on -/
def pcS (a : Option Addr) (len size : Nat) (x : Pc len size) : Value := .slice (slA a (x.k * size) (pcE len size x.k)) (pcE len size x.k - x.k * size) (pcE len size x.k - x.k * size)
def pcV (a : Option Addr) (len size : Nat) (x : Pc len size) : Array Value := #[pcS a len size x]
/-- what a round keeps: the two boxes -/
def BoxK (Bs Bn : Nat) (A B : World) : Prop := A.heap.size ≤ B.heap.size ∧ B.heap[Bs]? = A.heap[Bs]? ∧ B.heap[Bn]? = A.heap[Bn]?
set_option maxRecDepth 100000 in
theorem BoxK.trans {Bs Bn : Nat} {A B C : World} (h : BoxK Bs Bn A B) (k : BoxK Bs Bn B C) : BoxK Bs Bn A C := ⟨Nat.le_trans h.1 k.1, k.2.1.trans h.2.1, k.2.2.trans h.2.2⟩
set_option maxRecDepth 100000 in
set_option maxHeartbeats 2000000 in
theorem chunk1_in (n : Nat) (hn : 1 ≤ n) (l Bs Bn : Nat) (a : Option Addr) (len cap size : Nat) (J Jx : List (Pc len size) → World → Prop)
    (hY : ∀ pre x W, J pre W → pre.length < len → YieldAt Fence.wide (n - 1) Tryd.prog l (pcV a len size x) W fun e W' =>
      (e = .returned (.bool true) ∧ J (pre ++ [x]) W' ∧ BoxK Bs Bn W W') ∨ (e = .returned (.bool false) ∧ Jx (pre ++ [x]) W'))
    (W : World) (hJ : AbidesFrom W.heap.size J) (c1 : W.heap[Bs]? = some (.cells #[.slice a len cap] 22 (0, 0))) (c2 : W.heap[Bn]? = some (.cells #[.int .i64 (size : Int)] 3 (0, 0))) (hlc : len ≤ cap) (hsz : 1 ≤ size) (hs : size ≤ 2048) (hl : len ≤ 2048) (h0 : J [] W) :
    CallsIn Fence.wide n Tryd.prog 20 #[.func (.yield l) #[] #[], .pointer (some ⟨Bs, 0, none⟩), .pointer (some ⟨Bn, 0, none⟩)] W fun e W' => (∃ v, e = .returned v) ∧
      ((∃ ys : List (Pc len size), (ys.map (·.k) = List.range ys.length ∧ len ≤ ys.length * size) ∧ J ys W') ∨ (∃ pre : List (Pc len size), True ∧ Jx pre W')) := by
  refine callsIn_of_wp Tryd.func20 rfl trivial ?_ rfl
  simp only [Tryd.ntmps20, List.size_toArray, List.length_cons, List.length_nil, Nat.reduceAdd, Nat.reduceSub, Array.replicate_succ, Array.replicate_zero, List.push_toArray, List.append_toArray, List.nil_append, List.cons_append]
  have HJ0 := Bx.mk h0
  clear h0
  gi_wp2
  gi_loopw [4] (fun i wr => ∃ (k : Nat) (pre : List (Pc len size)), i = .int .i64 ((k * size : Nat) : Int) ∧ Bx (pre.map (·.k) = List.range k) ∧ Bx (J pre wr) ∧ k * size < len + size ∧ Bx (BoxK Bs Bn W wr)) (fun i _ => len + size - (intOf i).toNat)
  case atStart => exact ⟨0, [], by simp, ⟨rfl⟩, HJ0, by omega, ⟨Nat.le_refl _, rfl, rfl⟩⟩
  case round =>
    clear HJ0
    obtain ⟨k, pre, rfl, HP, HJ, hkl, HB⟩ := hrel
    have HPL : Bx (pre.length = k) := ⟨by have := congrArg List.length HP.out; simpa using this⟩
    have hb1 : wr.heap[Bs]? = some (.cells #[.slice a len cap] 22 (0, 0)) := HB.out.2.1.trans c1
    have hb2 : wr.heap[Bn]? = some (.cells #[.int .i64 (size : Int)] 3 (0, 0)) := HB.out.2.2.trans c2
    have d1 : wr.cell? ⟨Bs, 0, none⟩ = some (.slice a len cap) := cell_of_row wr Bs 0 _ _ (0, 0) hb1
    have d2 : wr.cell? ⟨Bn, 0, none⟩ = some (.int .i64 (size : Int)) := cell_of_row wr Bn 0 _ _ (0, 0) hb2
    obtain ⟨p, hp⟩ : ∃ p, p = k * size := ⟨_, rfl⟩
    have HPP := Bx.mk hp
    rw [← hp] at hkl ⊢
    clear hb1 hb2 hp
    by_cases hlt : p < len
    · have hpI : decide ((p : Int) < (len : Int)) = true := by simp; omega
      have hsl := run_sl_l a len cap p (p : Int) rfl (by omega)
      generalize slA a p cap = a2 at hsl
      gi_wp2
      gi_quiet (fail)
      obtain ⟨q, hq⟩ : ∃ q, q = pcE len size k := ⟨_, rfl⟩
      have hq1 : p < q ∧ q ≤ len ∧ q - p ≤ size := by
        have h1 := HPP.out
        unfold pcE at hq
        rw [← h1] at hq
        omega
      have hif : (if len - p < size then ((len - p : Nat) : Int) else (size : Int)) = ((q : Int) - p) := by
        have h1 := HPP.out
        unfold pcE at hq
        rw [← h1] at hq
        split <;> omega
      rw [hif]
      have HJ1 : Bx (J pre (wr.drewN nq)) := ⟨hJ pre wr _ none HJ.out ⟨rfl, rfl, rfl, Nat.le_refl _, fun _ _ _ => rfl⟩ (fun r e => by cases e)⟩
      have HB1 : Bx (BoxK Bs Bn W (wr.drewN nq)) := ⟨HB.out⟩
      have d3 : (wr.drewN nq).cell? ⟨Bs, 0, none⟩ = some (.slice a len cap) := d1
      have d4 : (wr.drewN nq).cell? ⟨Bn, 0, none⟩ = some (.int .i64 (size : Int)) := d2
      generalize wr.drewN nq = w1 at HJ1 HB1 d3 d4 ⊢
      clear d1 d2 hif hsl HJ HB
      have hslm := run_sl_lhm a len cap p q (p : Int) ((p : Int) + ((q : Int) - p)) ((p : Int) + ((q : Int) - p)) rfl (by omega) (by omega) (by omega) (by omega)
      have hsum : (p : Int) + ((q : Int) - p) = (q : Int) := by omega
      rw [hsum] at hslm
      obtain ⟨x, hx⟩ : ∃ x : Pc len size, x.k = k := ⟨⟨k, by rw [← HPP.out]; exact hlt⟩, rfl⟩
      obtain ⟨fn, tmps, assign, body, hy, hRd⟩ := hY pre x w1 HJ1.out (by
        rw [HPL.out]
        have h1 := HPP.out
        have h2 : k * 1 ≤ k * size := Nat.mul_le_mul_left k hsz
        omega)
      have hpv : pcV a len size x = #[.slice (slA a p q) (q - p) (q - p)] := by unfold pcV pcS; rw [hx, ← HPP.out, ← hq]
      rw [hpv] at hy
      have HX := Bx.mk hx
      generalize slA a p q = a3 at hslm hy hpv
      have HQ := Bx.mk hq
      clear hpv hx hq
      gi_wp2
      refine hRd.mono ?_
      rintro e3 W3 (⟨rfl, hJ3, hk3⟩ | ⟨rfl, hJx3⟩)
      · have HJ3 := Bx.mk hJ3
        have HB3 := Bx.mk (HB1.out.trans hk3)
        have e4 : W3.cell? ⟨Bn, 0, none⟩ = some (.int .i64 (size : Int)) := (World.cell?_of_block (w := w1) hk3.2.2).trans d4
        have HP3 : Bx ((pre ++ [x]).map (·.k) = List.range (k + 1)) := ⟨by rw [List.map_append, HP.out, List.range_succ]; simp [HX.out]⟩
        have HPN : Bx ((k + 1) * size = p + size) := ⟨by rw [Nat.add_mul, HPP.out]; omega⟩
        clear hy hslm hk3 hJ3 d3 d4 hRd hsum
        gi_wp2
        go_roundw
        case rel => exact ⟨k + 1, pre ++ [x], by rw [HPN.out]; go_num, HP3, HJ3, by rw [HPN.out]; omega, HB3⟩
        case measure => simp [intOf]; omega
      · have HJX := Bx.mk hJx3
        clear hy hslm d3 d4 hRd hsum
        gi_wp2
        refine bodyPost_ret (results_none rfl _ _ _) rfl ?_
        exact ⟨⟨_, rfl⟩, .inr ⟨_, trivial, HJX.out⟩⟩
    · have hpI : decide ((p : Int) < (len : Int)) = false := by simp; omega
      have HF : Bx (∃ ys : List (Pc len size), (ys.map (·.k) = List.range ys.length ∧ len ≤ ys.length * size) ∧ J ys wr) := ⟨pre, ⟨by rw [HPL.out]; exact HP.out, by rw [HPL.out, ← HPP.out]; omega⟩, HJ.out⟩
      gi_wp2
      go_end0
      exact ⟨⟨_, rfl⟩, .inl HF.out⟩
end Go.Proofs.YtjlclgmbenhakaaDoor
