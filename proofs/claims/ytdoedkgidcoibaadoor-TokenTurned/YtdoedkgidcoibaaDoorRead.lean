/- What the program reads of a text: the pass that it says, and the sum that it bears. -/
import Derived.Test.YtdoedkgidcoibaaDoorClaim
import Derived.Test.YtdoedkgidcoibaaDoorReadAny
import Derived.Test.YtdoedkgidcoibaaDoorUnhex
import Derived.Test.YtdoedkgidcoibaaDoorTexts
import Derived.Test.YtdoedkgidcoibaaDoorName
import Derived.Test.YtdoedkgidcoibaaDoorHashMath
namespace Go.Proofs.YtdoedkgidcoibaaDoor
open Go.RowKit
set_option linter.unusedVariables false

def rN (s : ByteArray) : ByteArray := ((readV s).map (·.1)).getD ⟨#[]⟩
def rV (s : ByteArray) : Int := ((readV s).map (·.2.1)).getD 0
def rL (s : ByteArray) : List Int := ((readV s).map (·.2.2)).getD []
/-- what is answered -/
def TRP (s : ByteArray) (w : World) (e : Ending) (w' : World) : Prop :=
  ∃ a m c, e = .returned (.tuple #[.agg #[.string (rN s), .int .i64 (rV s)], .slice a m c, .bool (readV s).isSome]) ∧ Bts w' a m c (rL s) ∧ Below w.heap.size w w'
theorem tr_none {s : ByteArray} {w w' : World} {e : Ending} (h : readV s = none) (he : e = .returned (.tuple #[.agg #[.string ⟨#[]⟩, .int .i64 0], .slice none 0 0, .bool false])) (hb : Below w.heap.size w w') : TRP s w e w' := by
  refine ⟨none, 0, 0, ?_, ?_, hb⟩
  · rw [he]; unfold rN rV; rw [h]; rfl
  · unfold rL; rw [h]; exact nil_bts w'
theorem tr_some {s n : ByteArray} {v : Int} {l : List Int} {w w' : World} {e : Ending} {a : Option Addr} {m c : Nat} (h : readV s = some (n, v, l)) (he : e = .returned (.tuple #[.agg #[.string n, .int .i64 v], .slice a m c, .bool true])) (hB : Bts w' a m c l) (hb : Below w.heap.size w w') : TRP s w e w' := by
  refine ⟨a, m, c, ?_, ?_, hb⟩
  · rw [he]; unfold rN rV; rw [h]; rfl
  · unfold rL; rw [h]; exact hB
theorem readV_not3 {s : ByteArray} (h : (pcs (cb 46) s).length ≠ 3) : readV s = none := by
  unfold readV
  split
  · rename_i hp; rw [hp] at h; exact absurd rfl h
  · rfl
/-- the answer's place, and what else stays -/
structure RC (n : ByteArray) (v : Int) (w w' : World) : Prop where
  low : Below w.heap.size w w'
  row : w'.heap[w.heap.size]? = some (.cells #[.string n, .int .i64 v] 35 (0, 0))
theorem RC.lt {n : ByteArray} {v : Int} {w w' : World} (h : RC n v w w') : w.heap.size < w'.heap.size := (Array.getElem?_eq_some_iff.1 h.row).1
theorem RC.step {n : ByteArray} {v : Int} {w w' w1 : World} (h : RC n v w w') (hb : Below w'.heap.size w' w1) : RC n v w w1 := ⟨bstep h.low hb, (hb.block _ h.lt).trans h.row⟩
theorem rc_new (w : World) : RC ⟨#[]⟩ 0 w (w.alloc (.cells #[.string ⟨#[]⟩, .int .i64 0] 35)) := ⟨(Below.refl _ _).alloc (Nat.le_refl _) _, heap_alloc_new _ _⟩
theorem RC.there {n : ByteArray} {v : Int} {w w' : World} (h : RC n v w w') : w'.there w.heap.size 0 2 := there_row h.row
theorem RC.put {n m : ByteArray} {v u : Int} {w w' : World} (h : RC n v w w') : RC m u w (w'.setCells w.heap.size 0 [.string m, .int .i64 u]) :=
  ⟨below_setCells h.low _ (Nat.le_refl _) _ _, heap_stored (vs := #[.string m, .int .i64 u]) h.row rfl⟩
theorem RC.at0 {n : ByteArray} {v : Int} {w w' : World} (h : RC n v w w') : w'.cell? ⟨w.heap.size, 0, none⟩ = some (.string n) := by rw [cell_of_row _ _ 0 _ _ (0, 0) h.row]; rfl
theorem RC.at1 {n : ByteArray} {v : Int} {w w' : World} (h : RC n v w w') : w'.cell? ⟨w.heap.size, 1, none⟩ = some (.int .i64 v) := by rw [cell_of_row _ _ 1 _ _ (0, 0) h.row]; rfl
theorem RC.fr0 {n : ByteArray} {v : Int} {w w' : World} (h : RC n v w w') : w'.frozen? ⟨w.heap.size, 0, none⟩ = false := frozen_of_row _ _ 0 _ _ h.row
theorem RC.fr1 {n : ByteArray} {v : Int} {w w' : World} (h : RC n v w w') : w'.frozen? ⟨w.heap.size, 1, none⟩ = false := frozen_of_row _ _ 1 _ _ h.row
theorem RC.put2 {n m : ByteArray} {v u : Int} {w w' : World} (h : RC n v w w') : RC m u w ((w'.setCell ⟨w.heap.size, 0, none⟩ (.string m)).setCell ⟨w.heap.size, 1, none⟩ (.int .i64 u)) := h.put
theorem pass_info : (Tryd.prog.info? 35).map (·.size) = some 2 := by kernel_rfl
theorem RC.put_bts {n m : ByteArray} {v u : Int} {w w' : World} {a : Option Addr} {len cap : Nat} {l : List Int} (h : RC n v w w') (hB : Bts w' a len cap l) (ha : ∀ p, a = some p → p.block ≠ w.heap.size) : Bts (w'.setCells w.heap.size 0 [.string m, .int .i64 u]) a len cap l :=
  hB.but ((But.refl _ _).setCells _ _) (fun _ p hp => ha p hp)
set_option maxRecDepth 100000 in
set_option maxHeartbeats 1000000 in
theorem tread_any (s : ByteArray) (w : World) (hs : s.size ≤ 300) (ht : Tens w) (he : Errs w) :
    Calls Tryd.prog 28 #[.string s] w (TRP s w) := by
  go_enter Tryd.func28, Tryd.ntmps28
  go_wp2_with fail
  have hc := rc_new w
  generalize w.alloc (.cells #[.string ⟨#[]⟩, .int .i64 0] 35) = w0 at hc ⊢
  replace ht := ht.below hc.low
  replace he := he.below hc.low
  refine (fields_any s 46 3 _ hs).mono ?_
  rintro e w1 ⟨v1, rfl, ho1, hb1⟩
  replace hc := hc.step hb1
  replace ht := ht.below hb1
  replace he := he.below hb1
  clear hb1
  by_cases h3 : (pcs (cb 46) s).length ≤ 3
  · have f1 : fOk (cb 46) s 3 = true := by unfold fOk; simp; omega
    have f2 : fL (cb 46) s 3 = pcs (cb 46) s := by unfold fL; rw [if_pos (by omega)]
    rw [f2] at ho1
    rw [f1]
    clear f1 f2
    by_cases h4 : (pcs (cb 46) s).length = 3
    · obtain ⟨n, t, x, hp⟩ : ∃ n t x, pcs (cb 46) s = [n, t, x] := by
        match hq : pcs (cb 46) s, h4 with
        | [n, t, x], _ => exact ⟨n, t, x, rfl⟩
      have z0 : n.size ≤ 300 := by have := (pcs_piece (cb 46) s 0 (by omega)).1; rw [hp] at this; exact Nat.le_trans this hs
      have z1 : t.size ≤ 300 := by have := (pcs_piece (cb 46) s 1 (by omega)).1; rw [hp] at this; exact Nat.le_trans this hs
      have z2 : x.size ≤ 300 := by have := (pcs_piece (cb 46) s 2 (by omega)).1; rw [hp] at this; exact Nat.le_trans this hs
      have HR : Hid (readV s = pieceV n t x) := by show _ = _; unfold readV; rw [hp]
      rw [hp] at ho1
      obtain ⟨ao, cap, rfl, htx⟩ := Txt.of_owns ho1
      obtain ⟨b, rfl, _, hcl⟩ := htx.spot (by simp)
      have x0 : w1.cell? ⟨b, 0, none⟩ = some (.string n) := hcl 0 (by simp)
      have x1 : w1.cell? ⟨b, 1, none⟩ = some (.string t) := hcl 1 (by simp)
      have x2 : w1.cell? ⟨b, 2, none⟩ = some (.string x) := hcl 2 (by simp)
      clear ho1 htx hcl hp h3 h4
      simp only [List.length_cons, List.length_nil]
      go_wp2_with fail
      go_quiet (fail)
      clear x0 x1 x2
      obtain ⟨w2, hw2⟩ : ∃ w2, w2 = w1.drewN nq := ⟨_, rfl⟩
      rw [← hw2]
      replace hc : RC ⟨#[]⟩ 0 w w2 := by rw [hw2]; exact ⟨below_drewN hc.low _, hc.row⟩
      replace ht : Tens w2 := by rw [hw2]; exact ht.drewN _
      replace he : Errs w2 := by rw [hw2]; exact ⟨he.syn, he.rng⟩
      clear hw2
      go_wp2_with fail
      refine (read_any t _ (by omega) ht he).mono ?_
      rintro e w3 ⟨hr, hb3⟩
      unfold RdP at hr
      subst hr
      replace hc := hc.step hb3
      clear hb3 ht he
      cases hcr : rdv t.data.toList with
      | none =>
        have HN : Hid (readV s = none) := by show _ = _; rw [HR.out]; exact pv_rd hcr
        simp only [Option.getD_none, Option.isSome_none]
        clear hcr HR
        have c0 := hc.at0
        have c1 := hc.at1
        have f0 := hc.fr0
        have f1 := hc.fr1
        go_wp2_with fail
        replace hc := hc.put2 (m := ⟨#[]⟩) (u := 0)
        clear c0 c1 f0 f1
        generalize (w3.setCell ⟨w.heap.size, 0, none⟩ (.string ⟨#[]⟩)).setCell ⟨w.heap.size, 1, none⟩ (.int .i64 0) = w9 at hc ⊢
        exact bodyPost_ret (v := .tuple #[.agg #[.string ⟨#[]⟩, .int .i64 0], .slice none 0 0, .bool false]) (by simp [results, Tryd.results28, go_sem, hc.at0, hc.at1]) rfl (tr_none HN.out rfl hc.low)
      | some v =>
        have HV : Hid (rdv t.data.toList = some v) := hcr
        have hv0 := (rd_back hcr).2.1
        simp only [Option.getD_some, Option.isSome_some]
        clear hcr
        go_wp2_with fail
        refine (isTime_any v _).mono ?_
        rintro e w' ⟨rfl, rfl⟩
        by_cases hT : v ≤ 1099511627776
        · rw [show tmB v = true from (tmB_iff v).2 ⟨hv0, hT⟩]
          go_wp2_with fail
          refine (name_any n _ (by omega)).mono ?_
          rintro e w' ⟨rfl, rfl⟩
          cases hN : nameB n with
          | false =>
            have HN : Hid (readV s = none) := by show _ = _; rw [HR.out]; exact pv_if HV.out (by rw [hN]; simp)
            clear hN HR HV
            have c0 := hc.at0
            have c1 := hc.at1
            have f0 := hc.fr0
            have f1 := hc.fr1
            go_wp2_with fail
            replace hc := hc.put2 (m := ⟨#[]⟩) (u := 0)
            clear c0 c1 f0 f1
            generalize (w'.setCell ⟨w.heap.size, 0, none⟩ (.string ⟨#[]⟩)).setCell ⟨w.heap.size, 1, none⟩ (.int .i64 0) = w9 at hc ⊢
            exact bodyPost_ret (v := .tuple #[.agg #[.string ⟨#[]⟩, .int .i64 0], .slice none 0 0, .bool false]) (by simp [results, Tryd.results28, go_sem, hc.at0, hc.at1]) rfl (tr_none HN.out rfl hc.low)
          | true =>
            have HM : Hid (nameB n = true) := hN
            clear hN
            go_wp2_with fail
            refine (unhex_own x _ (by omega)).mono ?_
            rintro e w4 ⟨a4, m4, c4, rfl, hB, hb4, hap⟩
            have hlt := hc.lt
            replace hc := hc.step hb4
            replace hap : ∀ p, a4 = some p → p.block ≠ w.heap.size := fun p hp => by have := hap p hp; omega
            clear hb4 hlt
            cases hcu : unhexV x with
            | none =>
              have HN : Hid (readV s = none) := by show _ = _; rw [HR.out]; exact pv_un hcu
              simp only [Option.isSome_none]
              clear hcu HR HV HM hB
              have c0 := hc.at0
              have c1 := hc.at1
              have f0 := hc.fr0
              have f1 := hc.fr1
              go_wp2_with fail
              replace hc := hc.put2 (m := ⟨#[]⟩) (u := 0)
              clear c0 c1 f0 f1
              generalize (w4.setCell ⟨w.heap.size, 0, none⟩ (.string ⟨#[]⟩)).setCell ⟨w.heap.size, 1, none⟩ (.int .i64 0) = w9 at hc ⊢
              exact bodyPost_ret (v := .tuple #[.agg #[.string ⟨#[]⟩, .int .i64 0], .slice none 0 0, .bool false]) (by simp [results, Tryd.results28, go_sem, hc.at0, hc.at1]) rfl (tr_none HN.out rfl hc.low)
            | some l =>
              rw [hcu] at hB
              simp only [Option.getD_some] at hB
              simp only [Option.isSome_some]
              by_cases h64 : x.size = 64
              · have HY : Hid (readV s = some (n, v, l)) := by show _ = _; rw [HR.out]; exact pv_ok HV.out hcu ⟨hT, HM.out, h64⟩
                have g1 : ((x.size : Int) != 64) = false := by simp; omega
                clear hcu HR HV HM h64
                have hB2 := hc.put_bts (m := n) (u := v) hB hap
                change Bts ((w4.setCell ⟨w.heap.size, 0, none⟩ (.string n)).setCell ⟨w.heap.size, 1, none⟩ (.int .i64 v)) a4 m4 c4 l at hB2
                have c0 := hc.at0
                have c1 := hc.at1
                have f0 := hc.fr0
                have f1 := hc.fr1
                go_wp2_with fail
                replace hc := hc.put2 (m := n) (u := v)
                clear c0 c1 f0 f1
                generalize (w4.setCell ⟨w.heap.size, 0, none⟩ (.string n)).setCell ⟨w.heap.size, 1, none⟩ (.int .i64 v) = w9 at hc hB2 ⊢
                exact bodyPost_ret (v := .tuple #[.agg #[.string n, .int .i64 v], .slice a4 m4 c4, .bool true]) (by simp [results, Tryd.results28, go_sem, hc.at0, hc.at1]) rfl (tr_some HY.out rfl hB2 hc.low)
              · have HN : Hid (readV s = none) := by show _ = _; rw [HR.out]; exact pv_if HV.out (by intro h; exact h64 h.2.2)
                have g1 : ((x.size : Int) != 64) = true := by simp; omega
                clear hcu HR HV HM h64 hB
                have c0 := hc.at0
                have c1 := hc.at1
                have f0 := hc.fr0
                have f1 := hc.fr1
                go_wp2_with fail
                replace hc := hc.put2 (m := ⟨#[]⟩) (u := 0)
                clear c0 c1 f0 f1
                generalize (w4.setCell ⟨w.heap.size, 0, none⟩ (.string ⟨#[]⟩)).setCell ⟨w.heap.size, 1, none⟩ (.int .i64 0) = w9 at hc ⊢
                exact bodyPost_ret (v := .tuple #[.agg #[.string ⟨#[]⟩, .int .i64 0], .slice none 0 0, .bool false]) (by simp [results, Tryd.results28, go_sem, hc.at0, hc.at1]) rfl (tr_none HN.out rfl hc.low)
        · rw [show tmB v = false by unfold tmB; simp; omega]
          have HN : Hid (readV s = none) := by show _ = _; rw [HR.out]; exact pv_if HV.out (by intro h; exact hT h.1)
          clear HR HV hT
          have c0 := hc.at0
          have c1 := hc.at1
          have f0 := hc.fr0
          have f1 := hc.fr1
          go_wp2_with fail
          replace hc := hc.put2 (m := ⟨#[]⟩) (u := 0)
          clear c0 c1 f0 f1
          generalize (w'.setCell ⟨w.heap.size, 0, none⟩ (.string ⟨#[]⟩)).setCell ⟨w.heap.size, 1, none⟩ (.int .i64 0) = w9 at hc ⊢
          exact bodyPost_ret (v := .tuple #[.agg #[.string ⟨#[]⟩, .int .i64 0], .slice none 0 0, .bool false]) (by simp [results, Tryd.results28, go_sem, hc.at0, hc.at1]) rfl (tr_none HN.out rfl hc.low)
    · have HN : Hid (readV s = none) := readV_not3 h4
      generalize hm : (pcs (cb 46) s).length = m at ho1 h4
      obtain ⟨ao, cap, rfl⟩ := owns_slice ho1
      have g1 : ((m : Int) != 3) = true := by simp; omega
      clear ho1 hm h3 h4
      have c0 := hc.at0
      have c1 := hc.at1
      have f0 := hc.fr0
      have f1 := hc.fr1
      go_wp2_with fail
      replace hc := hc.put2 (m := ⟨#[]⟩) (u := 0)
      clear c0 c1 f0 f1
      generalize (w1.setCell ⟨w.heap.size, 0, none⟩ (.string ⟨#[]⟩)).setCell ⟨w.heap.size, 1, none⟩ (.int .i64 0) = w9 at hc ⊢
      exact bodyPost_ret (v := .tuple #[.agg #[.string ⟨#[]⟩, .int .i64 0], .slice none 0 0, .bool false]) (by simp [results, Tryd.results28, go_sem, hc.at0, hc.at1]) rfl (tr_none HN.out rfl hc.low)
  · have HN : Hid (readV s = none) := readV_not3 (by omega)
    have f1 : fOk (cb 46) s 3 = false := by unfold fOk; simp; omega
    rw [f1]
    obtain ⟨ao, cap, rfl⟩ := owns_slice ho1
    clear ho1 f1
    have c0 := hc.at0
    have c1 := hc.at1
    have f0 := hc.fr0
    have f1 := hc.fr1
    go_wp2_with fail
    replace hc := hc.put2 (m := ⟨#[]⟩) (u := 0)
    clear c0 c1 f0 f1
    generalize (w1.setCell ⟨w.heap.size, 0, none⟩ (.string ⟨#[]⟩)).setCell ⟨w.heap.size, 1, none⟩ (.int .i64 0) = w9 at hc ⊢
    exact bodyPost_ret (v := .tuple #[.agg #[.string ⟨#[]⟩, .int .i64 0], .slice none 0 0, .bool false]) (by simp [results, Tryd.results28, go_sem, hc.at0, hc.at1]) rfl (tr_none HN.out rfl hc.low)
end Go.Proofs.YtdoedkgidcoibaaDoor
