/- What Unhex answers. -/
import Derived.Test.YtdoedkgidcoibaaDoorUnMath
import Derived.Test.YtdoedkgidcoibaaDoorShelf
namespace Go.Proofs.YtdoedkgidcoibaaDoor
open Go.RowKit
set_option linter.unusedVariables false

/-- what is answered: the bytes and true, or none and false -/
def UnP (s : ByteArray) (w : World) (e : Ending) (w' : World) : Prop :=
  ∃ a n c, e = .returned (.tuple #[.slice a n c, .bool (unhexV s).isSome]) ∧ Bts w' a n c ((unhexV s).getD []) ∧ Below w.heap.size w w'
theorem un_none {s : ByteArray} {w w' : World} {e : Ending} (h : unhexV s = none) (he : e = .returned (.tuple #[.slice none 0 0, .bool false])) (hb : Below w.heap.size w w') : UnP s w e w' := by
  refine ⟨none, 0, 0, ?_, ?_, hb⟩
  · rw [he, h]; rfl
  · rw [h]; exact nil_bts w'
theorem un_some {s : ByteArray} {w w' : World} {e : Ending} {v : Value} {l : List Int} {B n : Nat} (h : unhexV s = some l) (he : e = .returned (.tuple #[v, .bool true])) (ho : w'.ownsRow B 5 1 v n (bv l)) (hl : Byt l) (hb : Below w.heap.size w w') : UnP s w e w' := by
  obtain ⟨ao, cp, rfl, hB⟩ := Bts.of_owns ho hl
  refine ⟨ao, n, cp, ?_, ?_, hb⟩
  · rw [he, h]; rfl
  · rw [h]; exact hB
/-- the same, and that the bytes are nobody else's -/
def UnQ (s : ByteArray) (w : World) (e : Ending) (w' : World) : Prop :=
  ∃ a n c, e = .returned (.tuple #[.slice a n c, .bool (unhexV s).isSome]) ∧ Bts w' a n c ((unhexV s).getD []) ∧ Below w.heap.size w w' ∧ ∀ p, a = some p → w.heap.size ≤ p.block
theorem uq_none {s : ByteArray} {w w' : World} {e : Ending} (h : unhexV s = none) (he : e = .returned (.tuple #[.slice none 0 0, .bool false])) (hb : Below w.heap.size w w') : UnQ s w e w' := by
  refine ⟨none, 0, 0, ?_, ?_, hb, fun p hp => by cases hp⟩
  · rw [he, h]; rfl
  · rw [h]; exact nil_bts w'
theorem uq_some {s : ByteArray} {w w' : World} {e : Ending} {v : Value} {l : List Int} {n : Nat} (h : unhexV s = some l) (he : e = .returned (.tuple #[v, .bool true])) (ho : w'.ownsRow w.heap.size 5 1 v n (bv l)) (hl : Byt l) (hb : Below w.heap.size w w') : UnQ s w e w' := by
  have hlt := ho.lt
  obtain ⟨ao, cp, rfl, hB⟩ := Bts.of_owns ho hl
  refine ⟨ao, n, cp, ?_, ?_, hb, fun p hp => ?_⟩
  · rw [he, h]; rfl
  · rw [h]; exact hB
  · subst hp; exact (hlt p.block rfl).1
theorem index_any (c : Int) (w : World) :
    Calls Tryd.prog 54 #[.string ⟨#[48, 49, 50, 51, 52, 53, 54, 55, 56, 57, 97, 98, 99, 100, 101, 102]⟩, .int .u8 c] w fun e w' => e = .returned (.int .i64 (hv c)) ∧ w' = w := Any.strings_IndexByte Tryd.lays137 hexS c w
set_option maxHeartbeats 800000 in
theorem unhex_own (s : ByteArray) (w : World) (hs : s.size ≤ 1099511627776) :
    Calls Tryd.prog 43 #[.string s] w (UnQ s w) := by
  obtain ⟨i0, hi, hz0, hz1, hz2⟩ := info_parts Tryd.info5
  by_cases hodd : s.size % 2 = 0
  · obtain ⟨n, hn⟩ : ∃ n : Nat, s.size = 2 * n := ⟨s.size / 2, by omega⟩
    have HN : Hid (s.size = 2 * n) := hn
    clear hodd
    go_enter Tryd.func43, Tryd.ntmps43
    go_wp2_with (at_make; refine wpList_make_full _ rfl _ _ 22 rfl w.heap.size 5 i0 (.int .u8 0) 1 Tryd.underlying22 hi hz0 hz1 _ _ _ _ n rfl rfl (by omega) (by omega) (by rw [hz2]; omega) (by unfold maxLen; omega) (Nat.le_refl _) ?_)
    intro w1 hown hgrow
    rw [toList_madeCells_one] at hown
    have hown1 : w1.ownsRow w.heap.size 5 1 (.slice (some ⟨w.heap.size, 0, none⟩) n n) n (unRow [] n) := hown
    have hb1 : Below w.heap.size w w1 := (Below.refl _ _).grown hgrow (Nat.le_refl _) (by intro k hk; cases hk)
    clear hgrow hi hz0 hz1 hz2 hown
    go_wp2
    go_loopw [18] (fun i wr => ∃ (k : Nat) (l : List Int), k ≤ n ∧ i = .int .i64 k ∧ unB s k = some l ∧ wr.ownsRow w.heap.size 5 1 (.slice (some ⟨w.heap.size, 0, none⟩) n n) n (unRow l n) ∧ Below w.heap.size w wr) (fun i _ => n - (intOf i).toNat)
    case atStart => exact ⟨0, [], Nat.zero_le _, rfl, rfl, hown1, hb1⟩
    case round =>
      obtain ⟨k, l, hk, rfl, hl, hown, hb⟩ := hrel
      have HL : Hid (unB s k = some l) := hl
      clear hl
      by_cases hlt : k < n
      · have hki : (k : Int) < (n : Int) := by omega
        have hi1 : (0 : Int) ≤ 2 * (k : Int) := by omega
        have hi2 : 2 * (k : Int) < 2 * (n : Int) := by omega
        have hi3 : 2 * (k : Int) + 1 < 2 * (n : Int) := by omega
        have se1 : ∀ h, (((s[2 * k]'h).toNat : Nat) : Int) = sb s (2 * k) := fun h => sb_eq s (2 * k) h
        have se2 : ∀ h, (((s[2 * k + 1]'h).toNat : Nat) : Int) = sb s (2 * k + 1) := fun h => sb_eq s (2 * k + 1) h
        have hv1 := hv_bd (sb_byt s (2 * k))
        have hv2 := hv_bd (sb_byt s (2 * k + 1))
        have HP1 : Hid (hv (sb s (2 * k)) = hv (sb s (2 * k))) := rfl
        generalize hc1 : sb s (2 * k) = c1 at se1 hv1
        generalize hc2 : sb s (2 * k + 1) = c2 at se2 hv2
        generalize hd1 : hv c1 = d1 at hv1
        generalize hd2 : hv c2 = d2 at hv2
        have H1 : Hid (hv (sb s (2 * k)) = d1) := by show _ = _; rw [hc1, hd1]
        have H2 : Hid (hv (sb s (2 * k + 1)) = d2) := by show _ = _; rw [hc2, hd2]
        have C1 : Hid (∀ w', Calls Tryd.prog 54 #[.string ⟨#[48, 49, 50, 51, 52, 53, 54, 55, 56, 57, 97, 98, 99, 100, 101, 102]⟩, .int .u8 c1] w' fun e w'' => e = .returned (.int .i64 d1) ∧ w'' = w') := fun w' => by rw [← hd1]; exact index_any c1 w'
        have C2 : Hid (∀ w', Calls Tryd.prog 54 #[.string ⟨#[48, 49, 50, 51, 52, 53, 54, 55, 56, 57, 97, 98, 99, 100, 101, 102]⟩, .int .u8 c2] w' fun e w'' => e = .returned (.int .i64 d2) ∧ w'' = w') := fun w' => by rw [← hd2]; exact index_any c2 w'
        clear hc1 hc2 hd1 hd2 HP1
        go_wp2_with fail
        refine (C1.out _).mono ?_
        rintro e w' ⟨rfl, rfl⟩
        go_wp2_with fail
        refine (C2.out _).mono ?_
        rintro e w' ⟨rfl, rfl⟩
        by_cases hbad : d1 < 0 ∨ d2 < 0
        · have HU : Hid (unhexV s = none) := un_stop (k := k) (by omega) (unPair_none (by rw [H1.out, H2.out]; exact hbad))
          rcases hbad with g | g
          · go_wp2
            go_ret2
            exact uq_none HU.out rfl hb
          · by_cases g0 : d1 < 0
            · clear g
              go_wp2
              go_ret2
              exact uq_none HU.out rfl hb
            · have g2 : decide (d2 < 0) = true := by simpa using g
              go_wp2
              go_ret2
              exact uq_none HU.out rfl hb
        · obtain ⟨p, hp⟩ : ∃ p : Nat, d1 = (p : Int) := ⟨d1.toNat, by omega⟩
          obtain ⟨q, hq⟩ : ∃ q : Nat, d2 = (q : Int) := ⟨d2.toNat, by omega⟩
          subst hp hq
          have hp16 : p < 16 := by omega
          have hq16 : q < 16 := by omega
          have HU : Hid (unB s (k + 1) = some (l ++ [16 * (p : Int) + q])) := unB_more HL.out (unPair_some H1.out H2.out)
          have hll := (unB_facts s k l HL.out).1
          have HR : Hid ((unRow l n).set k (.int .u8 (16 * (p : Int) + q)) = unRow (l ++ [16 * (p : Int) + q]) n) := by
            show _ = _; rw [← hll]; exact unRow_more l n _ (by omega)
          have hor := or_eq p q hp16 hq16
          have n1 : ¬ (p : Int) < 0 := by omega
          have n2 : ¬ (q : Int) < 0 := by omega
          have n3 : decide ((q : Int) < 0) = false := by simp
          obtain ⟨c0, hc⟩ := owns_cell hown k (by omega)
          have hf := hown.frozenAt k
          have hst := hown.stored k (.int .u8 (16 * (p : Int) + q))
          rw [HR.out] at hst
          have hb2 := hb.grown hst.2 hb.size (by intro j hj; cases hj; exact Nat.le_refl _)
          clear hbad hll hv1 hv2 C1 C2 H1 H2 HL HR hown
          go_wp2
          go_roundw
          case rel => exact ⟨k + 1, _, by omega, by go_num, HU.out, hst.1, hb2⟩
          case measure => simp [intOf]; omega
      · have HK : Hid (k = n) := by show k = n; omega
        have hki : ¬ (k : Int) < (n : Int) := by omega
        have HU : Hid (unhexV s = some l) := un_end (k := k) (by omega) HL.out
        have HF := unB_facts s k l HL.out
        have hrow : unRow l n = bv l := by unfold unRow; rw [HF.1, HK.out]; simp
        rw [hrow] at hown
        have HB : Hid (Byt l) := HF.2
        clear HF hrow
        go_wp2
        go_ret2
        exact uq_some HU.out rfl hown HB.out hb
  · have HN : Hid (unhexV s = none) := un_odd hodd
    have g1 : ((s.size : Int) % 2 != 0) = true := by simp; omega
    clear hodd
    go_enter Tryd.func43, Tryd.ntmps43
    go_wp2
    go_ret2
    exact uq_none HN.out rfl (Below.refl _ _)
theorem unhex_any (s : ByteArray) (w : World) (hs : s.size ≤ 1099511627776) :
    Calls Tryd.prog 43 #[.string s] w (UnP s w) := by
  refine (unhex_own s w hs).mono ?_
  rintro e w' ⟨a, n, c, h1, h2, h3, _⟩
  exact ⟨a, n, c, h1, h2, h3⟩
end Go.Proofs.YtdoedkgidcoibaaDoor
