/- What Fields answers. What the document's Texts answers of two lists that are the same. -/
import Derived.Test.YtpfijaojgeceeaaGreatDoorFieldMath
import Derived.Test.YtpfijaojgeceeaaGreatDoorShelf
namespace Go.Proofs.YtpfijaojgeceeaaGreatDoor
open Go.RowKit
set_option linter.unusedVariables false

set_option maxRecDepth 100000 in
theorem Tryz.info9 : (Tryz.prog.info? 9).map (fun i => (i.zero, i.size, i.bytes)) = some (some (.string ⟨#[]⟩), 1, 16) := by kernel_rfl
/-- texts as values -/
def svT (P : List ByteArray) : List Value := P.map Value.string
set_option maxRecDepth 100000 in
theorem sv_length (P : List ByteArray) : (svT P).length = P.length := by simp [svT]
set_option maxRecDepth 100000 in
theorem sv_append (P Q : List ByteArray) : svT (P ++ Q) = svT P ++ svT Q := by simp [svT]
set_option maxRecDepth 100000 in
theorem sv_one (P : List ByteArray) : ∀ u ∈ svT P, u.oneCell' = true := by
  intro u hu
  obtain ⟨s, _, rfl⟩ := List.mem_map.1 hu
  rfl
def strLen : Value → Nat | .string s => s.size | _ => 0
/-- whether there are no more than that many pieces; which are answered -/
def fOk (c : UInt8) (s : ByteArray) (most : Int) : Bool := decide (((pcs c s).length : Int) ≤ most)
def fL (c : UInt8) (s : ByteArray) (most : Int) : List ByteArray := if ((pcs c s).length : Int) ≤ most then pcs c s else []
def FP (c : UInt8) (s : ByteArray) (most : Int) (w : World) (e : Ending) (w' : World) : Prop :=
  ∃ v, e = .returned (.tuple #[v, .bool (fOk c s most)]) ∧ w'.ownsRow w.heap.size 9 1 v (fL c s most).length (svT (fL c s most)) ∧ Below w.heap.size w w'
set_option maxRecDepth 100000 in
theorem fp_none {c : UInt8} {s : ByteArray} {most : Int} {w w' : World} {e : Ending} (h : most < ((pcs c s).length : Int)) (he : e = .returned (.tuple #[.slice none 0 0, .bool false])) (hb : Below w.heap.size w w') : FP c s most w e w' := by
  have h1 : fOk c s most = false := by unfold fOk; simp; omega
  have h2 : fL c s most = [] := by unfold fL; rw [if_neg (by omega)]
  refine ⟨.slice none 0 0, ?_, ?_, hb⟩
  · rw [he, h1]
  · rw [h2]; exact World.ownsRow_nil _ _ _ _
set_option maxRecDepth 100000 in
theorem fp_some {c : UInt8} {s : ByteArray} {most : Int} {w w' : World} {e : Ending} {v : Value} {P : List ByteArray} {n : Nat} (h : P = pcs c s) (hm : (P.length : Int) ≤ most) (he : e = .returned (.tuple #[v, .bool true])) (ho : w'.ownsRow w.heap.size 9 1 v n (svT P)) (hn : n = P.length) (hb : Below w.heap.size w w') : FP c s most w e w' := by
  subst hn
  rw [h] at hm
  have h1 : fOk c s most = true := by unfold fOk; simpa using hm
  have h2 : fL c s most = P := by unfold fL; rw [if_pos hm, h]
  refine ⟨v, ?_, ?_, hb⟩
  · rw [he, h1]
  · rw [h2]; exact ho
set_option maxRecDepth 100000 in
theorem owns_slice {w : World} {B n : Nat} {v : Value} {xs : List Value} (h : w.ownsRow B 9 1 v n xs) : ∃ ao cap, v = .slice ao n cap := by
  rcases h.2 with ⟨rfl, hn⟩ | ⟨g, cap, cur, rfl, _⟩
  · subst hn; exact ⟨none, 0, rfl⟩
  · exact ⟨_, _, rfl⟩
set_option maxRecDepth 100000 in
theorem app_relS {B n : Nat} {w wr w1 : World} {X : List Value} {v v' x : Value} {o : Obj} (hb : Below B w wr) (hB : B ≤ wr.heap.size)
    (hown : wr.ownsRow B 9 1 v n X) (h1 : w1.ownsRow B 9 1 v' (n + 1) (X ++ [x])) (hg : (wr.alloc o).grownBy w1 v.ownBlock) :
    w1.ownsRow B 9 1 v' (n + 1) (X ++ [x]) ∧ Below B w w1 := by
  refine ⟨h1, ?_⟩
  refine (hb.alloc hB o).grown hg (by simp; omega) ?_
  intro g hg'
  exact (hown.lt g hg').1
set_option maxRecDepth 100000 in
theorem ixb_any (t : ByteArray) (y : Int) (w : World) :
    Calls Tryz.prog 28 #[.string t, .int .u8 y] w fun e w' => e = .returned (.int .i64 (Lib.indexByte t.data.toList (cb y))) ∧ w' = w := Any.strings_IndexByte Tryz.lays137 t y w
set_option maxRecDepth 100000 in
set_option maxHeartbeats 800000 in
set_option maxRecDepth 100000 in
theorem fields_any (s : ByteArray) (y most : Int) (w : World) (hs : s.size ≤ 1000000) :
    Calls Tryz.prog 18 #[.string s, .int .u8 y, .int .i64 most] w (FP (cb y) s most w) := by
  obtain ⟨i0, hi, hz0, hz1, hz2⟩ := info_parts Tryz.info9
  go_enter Tryz.func18, Tryz.ntmps18
  go_wp2_with fail
  go_loopw [0, 8] (fun vs v wr => ∃ (t : ByteArray) (P : List ByteArray), vs = .string t ∧ P.length + t.size ≤ s.size ∧ P ++ pcs (cb y) t = pcs (cb y) s ∧ wr.ownsRow w.heap.size 9 1 v P.length (svT P) ∧ Below w.heap.size w wr) (fun vs _ _ => strLen vs)
  case atStart => exact ⟨s, [], rfl, by simp, rfl, World.ownsRow_nil _ _ _ _, Below.refl _ _⟩
  case round =>
    obtain ⟨t, P, rfl, hlen, hP, hown, hb⟩ := hrel
    have HP : Hid (P ++ pcs (cb y) t = pcs (cb y) s) := hP
    clear hP
    obtain ⟨ao, cap, rfl⟩ := owns_slice hown
    have hsz := hb.size
    by_cases hlt : (P.length : Int) < most
    · have C1 : Hid (∀ w', Calls Tryz.prog 28 #[.string t, .int .u8 y] w' fun e w'' => e = .returned (.int .i64 (Lib.indexByte t.data.toList (cb y))) ∧ w'' = w') := fun w' => ixb_any t y w'
      have hge := Lib.indexByte_ge t.data.toList (cb y)
      by_cases hno : Lib.indexByte t.data.toList (cb y) = -1
      · have HL : Hid (P ++ [t] = pcs (cb y) s) := by show _ = _; rw [← pcs_none hno]; exact HP.out
        rw [hno] at C1 hge
        clear hno HP
        go_wp2_with fail
        refine (C1.out _).mono ?_
        rintro e w' ⟨rfl, rfl⟩
        go_wp2_with (at_builtin; refine wpList_append_own _ rfl _ _ 46 rfl w.heap.size 9 i0 (.string ⟨#[]⟩) 1 16 Tryz.underlying46 hi hz0 hz1 hz2 rfl (by decide) _ _ _ rfl (hown.alloc _) ⟨w'.heap.size, 0, none⟩ 1 1 [.string t] rfl rfl (cell_one_new _ _ _) (sv_one [t]) (by unfold maxLen; omega) (by omega) (by simp; omega) ?_)
        intro v' w5 hown' hgrow _
        have R := app_relS hb hsz hown hown' hgrow
        clear hown' hgrow hown
        have R1 : w5.ownsRow w.heap.size 9 1 v' (P.length + 1) (svT (P ++ [t])) := by rw [sv_append]; exact R.1
        go_wp2_with fail
        go_ret2
        exact fp_some HL.out (by simp; omega) rfl R1 (by simp) R.2
      · obtain ⟨k, hk⟩ : ∃ k : Nat, Lib.indexByte t.data.toList (cb y) = (k : Int) := ⟨(Lib.indexByte t.data.toList (cb y)).toNat, by omega⟩
        obtain ⟨hkt, hpc⟩ := pcs_some hk
        have HL : Hid ((P ++ [t.extract 0 k]) ++ pcs (cb y) (t.extract (k + 1) t.size) = pcs (cb y) s) := by
          show _ = _; rw [← HP.out, hpc]; simp [rest]
        have hrs : (t.extract (k + 1) t.size).size = t.size - (k + 1) := rest_size t (k + 1)
        rw [hk] at C1 hge
        clear hno hk HP hpc
        have k1 : ¬ (k : Int) < 0 := by omega
        have k2 : (k : Int) ≤ (t.size : Int) := by omega
        have k3 : (k : Int) + 1 ≤ (t.size : Int) := by omega
        go_wp2_with fail
        refine (C1.out _).mono ?_
        rintro e w' ⟨rfl, rfl⟩
        go_wp2_with (at_builtin; refine wpList_append_own _ rfl _ _ 46 rfl w.heap.size 9 i0 (.string ⟨#[]⟩) 1 16 Tryz.underlying46 hi hz0 hz1 hz2 rfl (by decide) _ _ _ rfl (hown.alloc _) ⟨w'.heap.size, 0, none⟩ 1 1 [.string (t.extract 0 k)] rfl rfl (cell_one_new _ _ _) (sv_one [t.extract 0 k]) (by unfold maxLen; omega) (by omega) (by simp; omega) ?_)
        intro v' w5 hown' hgrow _
        have R := app_relS hb hsz hown hown' hgrow
        clear hown' hgrow hown
        have R1 : w5.ownsRow w.heap.size 9 1 v' (P.length + 1) (svT (P ++ [t.extract 0 k])) := by rw [sv_append]; exact R.1
        go_wp2_with fail
        go_roundw
        case rel => exact ⟨t.extract (k + 1) t.size, P ++ [t.extract 0 k], rfl, by rw [hrs]; simp; omega, HL.out, by simpa using R1, R.2⟩
        case measure => simp [strLen]; omega
    · have HN : Hid (most < ((pcs (cb y) s).length : Int)) := by
        show _ < _
        have := congrArg List.length HP.out
        have h1 : 0 < (pcs (cb y) t).length := List.length_pos_iff.2 (pcs_ne _ _)
        rw [List.length_append] at this
        omega
      go_wp2_with fail
      go_ret2
      exact fp_none HN.out rfl hb
end Go.Proofs.YtpfijaojgeceeaaGreatDoor
namespace Go.Proofs.YtpfijaojgeceeaaGreatDoor
open Go.RowKit
set_option linter.unusedVariables false

/-- a list of texts in memory -/
structure Txt (w : World) (ao : Option Addr) (n : Nat) (L : List ByteArray) : Prop where
  len_eq : L.length = n
  spot : 0 < n → ∃ b, ao = some ⟨b, 0, none⟩ ∧ b < w.heap.size ∧ ∀ i, i < n → w.cell? ⟨b, i, none⟩ = some (.string (L.getD i ⟨#[]⟩))
set_option maxRecDepth 100000 in
theorem Txt.below {w w' : World} {ao : Option Addr} {n : Nat} {L : List ByteArray} (h : Txt w ao n L) (hb : Below w.heap.size w w') : Txt w' ao n L := by
  refine ⟨h.len_eq, fun hp => ?_⟩
  obtain ⟨b, e, hlt, hc⟩ := h.spot hp
  exact ⟨b, e, Nat.lt_of_lt_of_le hlt hb.size, fun i hi => by rw [hb.cell hlt]; exact hc i hi⟩
set_option maxRecDepth 100000 in
theorem Txt.drewN {w : World} {ao : Option Addr} {n : Nat} {L : List ByteArray} (h : Txt w ao n L) (q : Nat) : Txt (w.drewN q) ao n L := ⟨h.len_eq, h.spot⟩
set_option maxRecDepth 100000 in
theorem Txt.of_owns {w : World} {B n : Nat} {v : Value} {L : List ByteArray} (h : w.ownsRow B 9 1 v n (svT L)) : ∃ ao cap, v = .slice ao n cap ∧ Txt w ao n L := by
  have hlen : L.length = n := by have := h.1; rw [sv_length] at this; omega
  rcases h.2 with ⟨rfl, hn⟩ | ⟨g, cap, cur, rfl, hb, hg, hnc, hcm, hcs, ht⟩
  · subst hn
    exact ⟨none, 0, rfl, hlen, fun hp => absurd hp (Nat.lt_irrefl _)⟩
  · refine ⟨some ⟨g, 0, none⟩, cap, rfl, hlen, fun _ => ⟨g, rfl, (Array.getElem?_eq_some_iff.1 hg).1, fun i hi => ?_⟩⟩
    have hc := h.cellAt i (by omega)
    rw [hc, List.getD_eq_getElem?_getD, List.getElem?_eq_getElem (by omega : i < L.length)]
    simp [svT, List.getElem?_eq_getElem (by omega : i < L.length)]
set_option maxRecDepth 100000 in
theorem Txt.grown {w w' : World} {ao : Option Addr} {n g : Nat} {L : List ByteArray} (h : Txt w ao n L) (hg : w.grownBy w' (some g)) (hne : ∀ b, ao = some ⟨b, 0, none⟩ → b ≠ g) : Txt w' ao n L := by
  refine ⟨h.len_eq, fun hp => ?_⟩
  obtain ⟨b, e, hlt, hc⟩ := h.spot hp
  refine ⟨b, e, Nat.lt_of_lt_of_le hlt hg.size, fun i hi => ?_⟩
  have hb : w'.heap[b]? = w.heap[b]? := hg.block b hlt (by intro h; exact hne b e (Option.some.inj h))
  rw [← hc i hi]
  unfold World.cell?
  rw [hb]
set_option maxRecDepth 100000 in
theorem fL_len (c : UInt8) (s : ByteArray) (most : Int) (hs : s.size ≤ 300) : (fL c s most).length ≤ 301 := by
  unfold fL
  split
  · have := cnt_all c s; have := cnt_le c s s.size; omega
  · simp
end Go.Proofs.YtpfijaojgeceeaaGreatDoor
