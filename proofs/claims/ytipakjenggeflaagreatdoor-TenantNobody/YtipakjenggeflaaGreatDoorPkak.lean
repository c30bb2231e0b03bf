/- What a tenant has, what it is asked, what comes of it. No walk. What holds of a tenant between two calls. No walk. -/
import Derived.Test.YtipakjenggeflaaGreatDoorTnJob
import Derived.Test.YtipakjenggeflaaGreatDoorPkaa
import Derived.Test.YtipakjenggeflaaGreatDoorPkaf
import Derived.Test.YtipakjenggeflaaGreatDoorPkae
import Derived.Test.YtipakjenggeflaaGreatDoorPkag
import Derived.Test.YtipakjenggeflaaGreatDoorPkah
namespace Go.Proofs.YtipakjenggeflaaGreatDoor
open Go.RowKit
set_option linter.unusedVariables false

/-- limits -/
structure Lm where
  q : Int
  n : Int
  fu : Int
  bu : Int
structure LmOk (l : Lm) : Prop where
  q : 0 ≤ l.q ∧ l.q ≤ 9223372036854775807
  n : 1 ≤ l.n ∧ l.n ≤ 8
  fu : 0 ≤ l.fu ∧ l.fu ≤ 10000
  bu : 0 ≤ l.bu ∧ l.bu ≤ 1073741824
/-- what a tenant has: what its store holds, entries, jobs that wait -/
structure TS where
  M : List Pr
  E : List En
  W : List Jb
def jb0 : Jb := ⟨⟨#[]⟩, ⟨#[]⟩, 0⟩
/-- what is asked -/
structure As where
  k : Int
  nm : ByteArray
  sp : ByteArray
  b : List Int
  A : Int
  B : Int
def hasM (M : List Pr) (k : ByteArray) : Bool := (gtM M k).isSome
def valM (M : List Pr) (k : ByteArray) : List Int := (gtM M k).getD []
/-- what comes of an ask: a status that refuses it, or (status 0) changes and a number -/
structure Rq where
  c : Int
  C : List Chg
  x : Int
def no (c : Int) : Rq := ⟨c, [], 0⟩
/-- the operations of a history's text -/
def opH (b : List Int) : List Opr := opV (rdH b).1
def putQ (M : List Pr) (nm : ByteArray) (b : List Int) : Rq :=
  if nameB nm = false then no 400 else if hasM M (kP cH nm) = true then no 409 else if 4096 < (valM M (kP cU nm)).length + b.length then no 413 else
  ⟨0, [⟨kP cU nm, false, valM M (kP cU nm) ++ b⟩], ((valM M (kP cU nm)).length + b.length : Nat)⟩
/-- the status of a commit -/
def cmC (e : Int) : Int := if e = 0 then 200 else if e = 12 ∨ e = 11 then 507 else 503
/-- the search of a job -/
def jobH (T : TS) (x : Jb) : List Int := valM T.M (kP cH x.h)
def jobC (T : TS) (x : Jb) : List Int := valM T.M (kP cS x.s)
end Go.Proofs.YtipakjenggeflaaGreatDoor
namespace Go.Proofs.YtipakjenggeflaaGreatDoor
open Go.RowKit
set_option linter.unusedVariables false

/-- what a key of the store is -/
def KeyOf (T : TS) (k : ByteArray) (v : List Int) : Prop :=
  (∃ i, i < T.E.length ∧ k = kP cE (d2 i)) ∨ (∃ i, i < T.W.length ∧ k = kP cJ (d2 (T.E.length + i))) ∨ (∃ nm, NameP nm ∧ k = kP cH nm ∧ (rdH v).2 = 0) ∨ (∃ nm, NameP nm ∧ k = kP cS nm ∧ (rdK v).2 = 0) ∨ (∃ nm, NameP nm ∧ k = kP cU nm ∧ gtM T.M (kP cH nm) = none)
/-- what holds of a tenant -/
structure TI (T : TS) : Prop where
  mo : MOk T.M
  e : ∀ i, i < T.E.length → gtM T.M (kP cE (d2 i)) = some (enL (T.E.getD i en0))
  j : ∀ i, i < T.W.length → gtM T.M (kP cJ (d2 (T.E.length + i))) = some (vJ (T.W.getD i jb0))
  all : ∀ k v, gtM T.M k = some v → Byt v ∧ KeyOf T k v
  wk : ∀ i, i < T.W.length → JOk (T.W.getD i jb0) ∧ hasM T.M (kP cH (T.W.getD i jb0).h) = true ∧ hasM T.M (kP cS (T.W.getD i jb0).s) = true
  en : ∀ i, i < T.E.length → canN (T.E.getD i en0) = true ∧ EnD (T.E.getD i en0) ∧ (T.E.getD i en0).j = (i : Int)
  le : T.E.length + T.W.length ≤ 64
  w8 : T.W.length ≤ 8
set_option maxRecDepth 100000 in
theorem TI.nil : TI ⟨[], [], []⟩ := ⟨MOk.nil, fun i hi => absurd hi (Nat.not_lt_zero _), fun i hi => absurd hi (Nat.not_lt_zero _), fun k v h => by simp [gtM] at h, fun i hi => absurd hi (Nat.not_lt_zero _), fun i hi => absurd hi (Nat.not_lt_zero _), Nat.zero_le _, Nat.zero_le _⟩
end Go.Proofs.YtipakjenggeflaaGreatDoor
