/- A task in memory. No walk. A task behind so many tries. No walk. A task is made. -/
import Derived.Test.YtipakjenggeflaaGreatDoorTmKey
import Derived.Test.YtipakjenggeflaaGreatDoorPkar
import Derived.Test.YtipakjenggeflaaGreatDoorVNew
import Derived.Test.YtipakjenggeflaaGreatDoorPkag
import Derived.Test.YtipakjenggeflaaGreatDoorPkah
import Derived.Test.YtipakjenggeflaaGreatDoorPkaa
import Derived.Test.YtipakjenggeflaaGreatDoorPkae
import Derived.Laws.BitsAllLaws
import Derived.WalkSmall
import Derived.BigQuiet
import Derived.Deep.CutRange
import Derived.Deep.RegionHeld3
import Derived.Deep.CutBlock
import Derived.Laws.AppendOwn
import Derived.Deep.MidRow
import Derived.Laws.IdiomStrings
import Derived.Lib.Strings
namespace Go.Proofs.YtipakjenggeflaaGreatDoor
open Go.RowKit
set_option linter.unusedVariables false
open Go.MapKept Go.Maps

/-- a frame as cells, a set as a cell -/
def frC (f : Fr) : List Value := [.int .u64 (f.x : Nat), .int .i64 (f.S.getD 0 0), .int .i64 (f.S.getD 1 0), .int .i64 (f.S.getD 2 0), .int .i64 (f.S.getD 3 0), .int .i64 (f.k : Nat)]
def seC (x : Nat) : List Value := [.int .u64 (x : Nat)]
abbrev Sts := Ls seC 1
section
variable {α : Type} {en : α → List Value} {k : Nat} {w w' : World} {ao : Option Addr} {len cap : Nat} {L : List α}
set_option maxRecDepth 100000 in
theorem Ls.stay (h : Ls en k w ao len cap L) (hb : 0 < len → ∀ p, ao = some p → p.block < w.heap.size → w'.heap[p.block]? = w.heap[p.block]?) (hs : w.heap.size ≤ w'.heap.size) : Ls en k w' ao len cap L :=
  ⟨h.len_eq, h.le_cap, h.cap_le, h.nil, fun hp => by
    obtain ⟨b, off, e, hlt, hc⟩ := h.spot hp
    have h1 : w'.heap[b]? = w.heap[b]? := hb hp _ e hlt
    exact ⟨b, off, e, Nat.lt_of_lt_of_le hlt hs, fun i hi j hj => (World.cell?_of_block (w := w) h1).trans (hc i hi j hj)⟩⟩
end
/-- what never changes of a task -/
structure TD where
  g : Nat
  gm : Nat
  gc : Nat
  cc : Nat
  fu : Int
  bu : Int
  aO : Option Addr
  n : Nat
  cO : Nat
  dn : Nat
  aA : Option Addr
  cA : Nat
  gM : Nat
  l : List Ic
  ops : List Opr
  A : List Nat
structure TDK (D : TD) : Prop where
  lk : IcsK D.l
  ok : OrsK D.ops
  fu : 0 ≤ D.fu ∧ D.fu ≤ 10000
  bu : 0 ≤ D.bu ∧ D.bu ≤ 1073741824
  n64 : D.n ≤ 64
  len : D.ops.length = D.n
  dn : D.dn < 2 ^ D.n ∧ ∀ i, i < D.n → D.dn.testBit i = (opN D.ops i).d
  ah : ∀ i, i < D.n → D.A.getD i 0 < 2 ^ D.n ∧ ∀ k, k < D.n → (D.A.getD i 0).testBit k = befO (opN D.ops k) (opN D.ops i)
  lo : D.gm < D.g ∧ D.gc < D.g ∧ D.gM < D.g
  lO : 0 < D.n → ∀ p, D.aO = some p → p.block < D.g
  lA : 0 < D.n → ∀ p, D.aA = some p → p.block < D.g
abbrev tmA (D : TD) (vF : Value) (t : Nat) (kd : Int) (vO : Value) : Array Value := #[.pointer (some ⟨D.gm, 0, none⟩), .int .i64 D.fu, .int .i64 D.bu, .slice D.aO D.n D.cO, .int .u64 (D.dn : Nat), .slice D.aA D.n D.cA, .map (some D.gM), vF, .int .i64 (t : Nat), .int .i64 kd, vO]
/-- a task in memory -/
structure Tm (D : TD) (w : World) (vF : Value) (F : List Fr) (M : List Ps) (t : Nat) (kd : Int) (vO : Value) (o : List Nat) : Prop where
  row : w.heap[D.g]? = some (.cells (tmA D vF t kd vO) 196 (0, 0))
  mc : Mc w D.gm D.gc D.cc D.l
  oo : Ors w D.aO D.n D.cO D.ops
  ah : Sts w D.aA D.n D.cA D.A
  mp : ∃ es clock, w.heap[D.gM]? = some (.map es clock) ∧ Km Tryz.prog 237 (.agg #[]) es clock (M.map psV)
  fr : w.ownsRow (D.g + 1) 282 6 vF F.length (F.flatMap frC)
  od : w.ownsRow (D.g + 1) 3 1 vO o.length ((orI o).flatMap ivC)
section
variable {D : TD} {w w' : World} {vF : Value} {F : List Fr} {M : List Ps} {t : Nat} {kd : Int} {vO : Value} {o : List Nat}
set_option maxRecDepth 100000 in
theorem Tm.lt (h : Tm D w vF F M t kd vO o) : D.g < w.heap.size := (Array.getElem?_eq_some_iff.1 h.row).1
end
end Go.Proofs.YtipakjenggeflaaGreatDoor
namespace Go.Proofs.YtipakjenggeflaaGreatDoor
open Go.RowKit
set_option linter.unusedVariables false
open Go.MapKept Go.Maps

/-- the search that a task is -/
abbrev tS (D : TD) : Sr Po := srO D.l D.fu D.ops
abbrev tP (D : TD) : Po := po0 D.ops.length
abbrev tB (D : TD) : Nat := D.bu.toNat
abbrev tR (D : TD) : RsL Po := vdR D.l D.fu D.bu D.ops
/-- what holds of its frames -/
structure TOk (D : TD) (B : List Fr) (f : Fr) (M : List Ps) (t : Nat) : Prop where
  pm : ∀ y ∈ M, PsK D.n y
  pb : ∀ y ∈ B, PsK D.n y.q ∧ y.k < D.n ∧ (tS D).full (y.p (tS D).n) = false
  pf : PsK D.n f.q
  kf : f.k ≤ D.n
  nb : B.length ≤ t
/-- a task behind k tries -/
structure TaT (D : TD) (w : World) (vF : Value) (k : Nat) (F : List Fr) (M : List Ps) (kd : Int) (vO : Value) (o : List Nat) : Prop where
  tm : Tm D w vF F M k kd vO o
  tk : Tk (tS D) (tP D) (tB D) k
  st : (stopS (tS D) (tP D) (tB D) k = false ∧ kd = 0 ∧ o = [] ∧ ∃ B f, F = B ++ [f] ∧ Run (tS D) (sqS (tS D) (tP D) k) B f M k ∧ TOk D B f M k) ∨
    (stopS (tS D) (tP D) (tB D) k = true ∧ F = [] ∧ kd = (vdK (tR D) : Nat) ∧ o = (tR D).o ∧ k = (tR D).t)
end Go.Proofs.YtipakjenggeflaaGreatDoor
namespace Go.Proofs.YtipakjenggeflaaGreatDoor
open Go.RowKit
set_option linter.unusedVariables false
open Go.MapKept Go.Maps

/-- all of it is new -/
structure NewD (N : Nat) (D : TD) : Prop where
  g : N ≤ D.g
  gm : N ≤ D.gm
  gc : N ≤ D.gc
  gM : N ≤ D.gM
  aO : 0 < D.n → ∀ p, D.aO = some p → N ≤ p.block
  aA : 0 < D.n → ∀ p, D.aA = some p → N ≤ p.block
set_option maxRecDepth 100000 in
theorem two_new18 (w : World) (A B : Obj) : ((w.alloc A).alloc B).heap[w.heap.size]? = some A ∧ ((w.alloc A).alloc B).heap[w.heap.size + 1]? = some B ∧ Below w.heap.size w ((w.alloc A).alloc B) := by
  have hb1 : Below w.heap.size w (w.alloc A) := (Below.refl _ _).alloc (Nat.le_refl _) _
  have hs : (w.alloc A).heap.size = w.heap.size + 1 := by simp
  have hb2 : Below (w.alloc A).heap.size (w.alloc A) ((w.alloc A).alloc B) := (Below.refl _ _).alloc (Nat.le_refl _) _
  have h2 := heap_alloc_new (w.alloc A) B
  rw [hs] at h2
  exact ⟨(hb2.block _ (by rw [hs]; omega)).trans (heap_alloc_new w A), h2, bstep hb1 hb2⟩
end Go.Proofs.YtipakjenggeflaaGreatDoor
