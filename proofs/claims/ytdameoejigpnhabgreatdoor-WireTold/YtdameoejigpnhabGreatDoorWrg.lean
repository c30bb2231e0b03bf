/- What lines say: authorization, the body's length, the body in chunks. What further lines say. What the first line says. -/
import Derived.Test.YtdameoejigpnhabGreatDoorWMem
namespace Go.Proofs.YtdameoejigpnhabGreatDoor
open Go.RowKit
set_option linter.unusedVariables false

set_option maxRecDepth 100000 in
theorem frN_ne (h : HD) : (frN h != 0) = (h.len || h.enc) := by
  unfold frN
  cases h.enc <;> cases h.len <;> rfl
def saidH (h : HD) (name value : List Int) (lines cnt : Nat) (line : List Int) (LV : Value) (cr : Bool) : HM := hmOf (sayV h name value).1 lines cnt line LV cr
set_option maxRecDepth 100000 in
set_option maxHeartbeats 1000000 in
theorem wpart_any (g : Nat) (own : Nat → Prop) (h : HD) (v : List Int) (lines cnt : Nat) (line : List Int) (LV : Value) (cr : Bool) (w : World) (hm : Hm w g own (hmOf h lines cnt line LV cr)) (hv : Byt v) :
    Calls Tryz.prog 72 #[.pointer (some ⟨g, 1, none⟩), .string (strOf v)] w fun e w' => e = .returned (.int .i64 (sayV h encN v).2) ∧ Hm w' g own (saidH h encN v lines cnt line LV cr) ∧ Kept own w w' := by
  have e1 : ((strOf v).toList == [99, 104, 117, 110, 107, 101, 100]) = decide (v = chkV) := lit_eq hv chkV (byt_dec (by decide)) _ rfl
  have c10 : w.cell? ⟨g, 10, none⟩ = some (.int .i64 (frN h)) := hm.c10
  have f10 := hm.fz 10
  have e2 := frN_ne h
  have HH := Bx.mk hm
  have HS : Bx (sayV h encN v = if h.len = true ∨ h.enc = true ∨ v ≠ chkV then (h, 4) else ({ h with enc := true }, 0)) := ⟨by unfold sayV; rw [if_neg (by decide), if_pos rfl]⟩
  clear hm
  by_cases h1 : v = chkV
  · rw [decide_eq_true h1] at e1
    cases h2 : (h.len || h.enc) with
    | true =>
      rw [h2] at e2
      have HE : Bx (sayV h encN v = (h, 4)) := ⟨by rw [HS.out, if_pos]; simp at h2; rcases h2 with h2 | h2 <;> simp [h2]⟩
      generalize frN h = F at c10 e2
      generalize strOf v = s at e1
      clear h1 h2 HS
      go_enter Tryz.func72, Tryz.ntmps72
      go_wp2
      go_ret
      refine ⟨by rw [HE.out]; rfl, ?_, Kept.refl _ _⟩
      unfold saidH; rw [HE.out]; exact HH.out
    | false =>
      rw [h2] at e2
      have HE : Bx (sayV h encN v = ({ h with enc := true }, 0)) := ⟨by
        rw [HS.out, if_neg]; simp at h2; simp [h2, h1]⟩
      have HF : Bx (Hm (w.setCell ⟨g, 10, none⟩ (.int .i64 2)) g own (saidH h encN v lines cnt line LV cr)) := ⟨by unfold saidH; rw [HE.out]; exact HH.out.sFr 2⟩
      generalize frN h = F at c10 e2
      generalize strOf v = s at e1
      clear h1 h2 HS
      go_enter Tryz.func72, Tryz.ntmps72
      go_wp2
      go_ret
      exact ⟨by rw [HE.out]; rfl, HF.out, HH.out.kset _ _⟩
  · rw [decide_eq_false h1] at e1
    have HE : Bx (sayV h encN v = (h, 4)) := ⟨by rw [HS.out, if_pos]; simp [h1]⟩
    generalize frN h = F at c10 e2
    generalize strOf v = s at e1
    clear h1 HS
    go_enter Tryz.func72, Tryz.ntmps72
    go_wp2
    go_ret
    refine ⟨by rw [HE.out]; rfl, ?_, Kept.refl _ _⟩
    unfold saidH; rw [HE.out]; exact HH.out
set_option maxRecDepth 100000 in
set_option maxHeartbeats 1000000 in
theorem wauth_any (g : Nat) (own : Nat → Prop) (h : HD) (v : List Int) (lines cnt : Nat) (line : List Int) (LV : Value) (cr : Bool) (w : World) (hm : Hm w g own (hmOf h lines cnt line LV cr)) (hv : Byt v) :
    Calls Tryz.prog 70 #[.pointer (some ⟨g, 1, none⟩), .string (strOf v)] w fun e w' => e = .returned (.int .i64 (sayV h authN v).2) ∧ Hm w' g own (saidH h authN v lines cnt line LV cr) ∧ Kept own w w' := by
  have C0 : Hid (∀ wr, Calls Tryz.prog 95 #[.string (strOf v), .string ⟨#[66, 101, 97, 114, 101, 114, 32]⟩] wr fun e w' => e = .returned (.tuple #[.string (if v.take 7 = bearV then strOf (v.drop 7) else strOf v), .bool (decide (v.take 7 = bearV))]) ∧ w' = wr) := fun wr => cutpre_any v bearV wr hv (byt_dec (by decide))
  have c9 : w.cell? ⟨g, 9, none⟩ = some (.bool h.auth) := hm.c9
  have f9 := hm.fz 9
  have f6 := hm.fz 6
  have c6 : w.cell? ⟨g, 6, none⟩ = some (.string h.k) := hm.c6
  have HH := Bx.mk hm
  have HS : Bx (sayV h authN v = if h.auth = true ∨ v.take 7 ≠ bearV then (h, 4) else ({ h with auth := true, k := strOf (v.drop 7) }, 0)) := ⟨by unfold sayV; rw [if_pos rfl]⟩
  clear hm
  by_cases h1 : v.take 7 = bearV
  · rw [decide_eq_true h1, if_pos h1] at C0
    cases h2 : h.auth with
    | true =>
      rw [h2] at c9
      have HE : Bx (sayV h authN v = (h, 4)) := ⟨by rw [HS.out, if_pos (.inl h2)]⟩
      generalize strOf v = s at C0
      generalize strOf (v.drop 7) = r at C0
      clear h1 h2 HS
      go_enter Tryz.func70, Tryz.ntmps70
      go_wp2_with fail
      refine (C0.out _).mono ?_
      rintro e w' ⟨rfl, rfl⟩
      go_wp2
      go_ret
      refine ⟨by rw [HE.out]; rfl, ?_, Kept.refl _ _⟩
      unfold saidH; rw [HE.out]; exact HH.out
    | false =>
      rw [h2] at c9
      have HE : Bx (sayV h authN v = ({ h with auth := true, k := strOf (v.drop 7) }, 0)) := ⟨by rw [HS.out, if_neg]; simp [h1, h2]⟩
      have HF : Bx (Hm ((w.setCell ⟨g, 9, none⟩ (.bool true)).setCell ⟨g, 6, none⟩ (.string (strOf (v.drop 7)))) g own (saidH h authN v lines cnt line LV cr) ∧ Kept own w ((w.setCell ⟨g, 9, none⟩ (.bool true)).setCell ⟨g, 6, none⟩ (.string (strOf (v.drop 7))))) := ⟨by unfold saidH; rw [HE.out]; exact ⟨(HH.out.sAu true).sK _, (HH.out.sAu true).kset' (HH.out.kset _ _) _ _⟩⟩
      have f6b := (HH.out.sAu true).fz 6
      have c6b := (HH.out.sAu true).c6
      generalize strOf v = s at C0
      generalize strOf (v.drop 7) = r at C0 HF
      clear h1 h2 HS
      go_enter Tryz.func70, Tryz.ntmps70
      go_wp2_with fail
      refine (C0.out _).mono ?_
      rintro e w' ⟨rfl, rfl⟩
      go_wp2
      go_ret
      exact ⟨by rw [HE.out]; rfl, HF.out⟩
  · rw [decide_eq_false h1, if_neg h1] at C0
    have HE : Bx (sayV h authN v = (h, 4)) := ⟨by rw [HS.out, if_pos (.inr h1)]⟩
    generalize strOf v = s at C0
    clear h1 HS
    go_enter Tryz.func70, Tryz.ntmps70
    go_wp2_with fail
    refine (C0.out _).mono ?_
    rintro e w' ⟨rfl, rfl⟩
    go_wp2
    go_ret
    refine ⟨by rw [HE.out]; rfl, ?_, Kept.refl _ _⟩
    unfold saidH; rw [HE.out]; exact HH.out
end Go.Proofs.YtdameoejigpnhabGreatDoor
namespace Go.Proofs.YtdameoejigpnhabGreatDoor
open Go.RowKit
set_option linter.unusedVariables false

set_option maxRecDepth 100000 in
set_option maxHeartbeats 1000000 in
theorem wmeas_any (B g : Nat) (own : Nat → Prop) (h : HD) (v : List Int) (lines cnt : Nat) (line : List Int) (LV : Value) (cr : Bool) (w : World) (hm : Hm w g own (hmOf h lines cnt line LV cr)) (hv : Byt v) (hvl : v.length ≤ 1000000) (he : Env B w) :
    Calls Tryz.prog 71 #[.pointer (some ⟨g, 1, none⟩), .string (strOf v)] w fun e w' => e = .returned (.int .i64 (sayV h lenN v).2) ∧ Hm w' g own (saidH h lenN v lines cnt line LV cr) ∧ Kept own w w' := by
  have C0 : Hid (Calls Tryz.prog 40 #[.string (strOf v)] w fun e w' => RdP (strOf v) e ∧ Below w.heap.size w w') := read_any (strOf v) w (by rw [strOf_size]; omega) he.tens he.errs
  unfold RdP at C0
  rw [rd_link v hv] at C0
  have e2 := frN_ne h
  have HH := Bx.mk hm
  have HS : Bx (sayV h lenN v = if h.len = true ∨ h.enc = true then (h, (4 : Int)) else match rdD v with | none => (h, (4 : Int)) | some n => if 9223372036854775807 < n then (h, 4) else if 2048 < n then (h, 5) else ({ h with len := true, n := n }, 0)) := ⟨by unfold sayV; rw [if_neg (by decide), if_neg (by decide), if_pos rfl]; rfl⟩
  clear hm he hvl
  have BAD : ∀ (_ : sayV h lenN v = (h, 4)) (C1 : Hid (Calls Tryz.prog 40 #[.string (strOf v)] w fun e w' => e = .returned (.tuple #[.int .i64 0, .bool false]) ∧ Below w.heap.size w w')), Calls Tryz.prog 71 #[.pointer (some ⟨g, 1, none⟩), .string (strOf v)] w fun e w' => e = .returned (.int .i64 (sayV h lenN v).2) ∧ Hm w' g own (saidH h lenN v lines cnt line LV cr) ∧ Kept own w w' := by
    intro hE C1
    have HE := Bx.mk hE
    clear hE C0 HS e2
    generalize strOf v = s at C1
    go_enter Tryz.func71, Tryz.ntmps71
    go_wp2_with fail
    refine C1.out.mono ?_
    rintro e w' ⟨rfl, hb⟩
    have HB := Bx.mk hb
    clear hb
    go_wp2
    go_ret
    refine ⟨by rw [HE.out]; rfl, ?_, Kept.of_below HB.out⟩
    unfold saidH; rw [HE.out]; exact HH.out.below HB.out
  cases hr : rdD v with
  | none =>
    rw [hr] at HS C0
    exact BAD (by rw [HS.out]; simp) C0
  | some n =>
    rw [hr] at HS C0
    simp only at HS C0
    by_cases h1 : n ≤ 9223372036854775807
    · rw [if_pos h1] at C0
      have C1 : Hid (Calls Tryz.prog 40 #[.string (strOf v)] w fun e w' => e = .returned (.tuple #[.int .i64 (n : Int), .bool true]) ∧ Below w.heap.size w w') := C0
      clear C0 BAD
      cases h2 : (h.len || h.enc) with
      | true =>
        have HE : Bx (sayV h lenN v = (h, 4)) := ⟨by rw [HS.out, if_pos]; simpa using h2⟩
        rw [h2] at e2
        clear h2 HS hr
        generalize strOf v = s at C1
        go_enter Tryz.func71, Tryz.ntmps71
        go_wp2_with fail
        refine C1.out.mono ?_
        rintro e w' ⟨rfl, hb⟩
        have HB := Bx.mk hb
        have HH2 := Bx.mk (HH.out.below hb)
        have c10 : w'.cell? ⟨g, 10, none⟩ = some (.int .i64 (frN h)) := HH2.out.c10
        generalize frN h = F at c10 e2
        clear hb
        go_wp2
        go_ret
        refine ⟨by rw [HE.out]; rfl, ?_, Kept.of_below HB.out⟩
        unfold saidH; rw [HE.out]; exact HH2.out
      | false =>
        rw [h2] at e2
        have HS2 : Bx (sayV h lenN v = if 2048 < n then (h, 5) else ({ h with len := true, n := n }, 0)) := ⟨by rw [HS.out, if_neg (by simpa using h2), if_neg (by omega)]⟩
        have hen : h.enc = false := by cases hh : h.enc <;> simp_all
        clear h2 HS hr
        generalize strOf v = s at C1
        by_cases h3 : 2048 < n
        · have HE : Bx (sayV h lenN v = (h, 5)) := ⟨by rw [HS2.out, if_pos h3]⟩
          have g1 : (2048 : Int) < (n : Int) := by omega
          clear HS2 h3 hen
          go_enter Tryz.func71, Tryz.ntmps71
          go_wp2_with fail
          refine C1.out.mono ?_
          rintro e w' ⟨rfl, hb⟩
          have HB := Bx.mk hb
          have HH2 := Bx.mk (HH.out.below hb)
          have c10 : w'.cell? ⟨g, 10, none⟩ = some (.int .i64 (frN h)) := HH2.out.c10
          generalize frN h = F at c10 e2
          clear hb
          go_wp2
          go_ret
          refine ⟨by rw [HE.out]; rfl, ?_, Kept.of_below HB.out⟩
          unfold saidH; rw [HE.out]; exact HH2.out
        · have HE : Bx (sayV h lenN v = ({ h with len := true, n := n }, 0)) := ⟨by rw [HS2.out, if_neg h3]⟩
          have g1 : ¬ (2048 : Int) < (n : Int) := by omega
          have HEN := Bx.mk hen
          clear HS2 h3 hen
          go_enter Tryz.func71, Tryz.ntmps71
          go_wp2_with fail
          refine C1.out.mono ?_
          rintro e w' ⟨rfl, hb⟩
          have HB := Bx.mk hb
          have HH2 := Bx.mk (HH.out.below hb)
          have c10 : w'.cell? ⟨g, 10, none⟩ = some (.int .i64 (frN h)) := HH2.out.c10
          have f10 := HH2.out.fz 10
          have HF : Bx (Hm ((w'.setCell ⟨g, 10, none⟩ (.int .i64 1)).setCell ⟨g, 11, none⟩ (.int .i64 (n : Int))) g own (saidH h lenN v lines cnt line LV cr) ∧ Kept own w ((w'.setCell ⟨g, 10, none⟩ (.int .i64 1)).setCell ⟨g, 11, none⟩ (.int .i64 (n : Int)))) := ⟨by
            refine ⟨?_, (HH2.out.sFr 1).kset' (HH2.out.kset' (Kept.of_below HB.out) _ _) _ _⟩
            have h5 := (HH2.out.sFr 1).sLn (n : Int)
            unfold saidH; rw [HE.out]
            have h6 : frN { h with len := true, n := n } = 1 := by unfold frN; rw [if_neg (by rw [HEN.out]; decide), if_pos rfl]
            unfold hmOf; rw [h6]; exact h5⟩
          have f11 := (HH2.out.sFr 1).fz 11
          have c11 := (HH2.out.sFr 1).c11
          generalize frN h = F at c10 e2
          clear hb
          go_wp2
          go_ret
          exact ⟨by rw [HE.out]; rfl, HF.out⟩
    · rw [if_neg h1] at C0
      exact BAD (by rw [HS.out, if_pos (by omega : 9223372036854775807 < n), ite_self]) C0
/-- what a further line says, in memory -/
def furH (h : HD) (l : List Int) (lines cnt : Nat) (line : List Int) (LV : Value) (cr : Bool) : HM := hmOf (furV h l).1 lines cnt line LV cr
set_option maxRecDepth 100000 in
theorem let_ascii {m : List Int} (h : nmB m = true) (hm : Byt m) : ∀ c ∈ m, 0 ≤ c ∧ c < 128 := fun c hc => by
  have h0 := hm c hc
  unfold nmB at h
  simp only [Bool.and_eq_true, List.all_eq_true] at h
  have := h.2.2 c hc
  rw [letB_eq] at this
  unfold smB lgB at this
  simp at this
  omega
set_option maxRecDepth 100000 in
set_option maxHeartbeats 1000000 in
theorem wfur_any (B g : Nat) (own : Nat → Prop) (h : HD) (l : List Int) (lines cnt : Nat) (line : List Int) (LV : Value) (cr : Bool) (w : World) (hm : Hm w g own (hmOf h lines cnt line LV cr)) (hl : Byt l) (hll : l.length ≤ 1000000) (he : Env B w) (hB : B ≤ w.heap.size) :
    Calls Tryz.prog 54 #[.pointer (some ⟨g, 1, none⟩), .string (strOf l)] w fun e w' => e = .returned (.int .i64 (furV h l).2) ∧ Hm w' g own (furH h l lines cnt line LV cr) ∧ Kept own w w' := by
  have C0 : Hid (Calls Tryz.prog 67 #[.string (strOf l), .string ⟨#[58, 32]⟩] w fun e w' => e = .returned (.tuple #[.string ⟨(Lib.cut (l.map u8I) [58, 32]).1.toArray⟩, .string ⟨(Lib.cut (l.map u8I) [58, 32]).2.1.toArray⟩, .bool (Lib.cut (l.map u8I) [58, 32]).2.2]) ∧ ∃ n, w' = w.drewN n) := cut_any2 l w B he hll
  have HH := Bx.mk hm
  have HENV := Bx.mk he
  have HBB := Bx.mk hB
  clear hm he hB
  rcases cut_nam l hl with ⟨i, h1, h2, h3, h4⟩ | ⟨h1, h2⟩
  · rw [h4] at C0
    have C1 : Hid (Calls Tryz.prog 67 #[.string (strOf l), .string ⟨#[58, 32]⟩] w fun e w' => e = .returned (.tuple #[.string (strOf (l.take i)), .string (strOf (l.drop (i + 2))), .bool true]) ∧ ∃ n, w' = w.drewN n) := C0
    have hbt : Byt (l.take i) := hl.take i
    have hbd : Byt (l.drop (i + 2)) := fun c hc => hl c (List.mem_of_mem_drop hc)
    have C2 : Hid (∀ w', Calls Tryz.prog 68 #[.string (strOf (l.take i))] w' fun e w'' => e = .returned (.bool true) ∧ w'' = w') := fun w' => by have := wname_any (l.take i) w' hbt (by rw [List.length_take]; omega); rwa [h3] at this
    have C3 : Hid (∀ w', Calls Tryz.prog 69 #[.string (strOf (l.take i))] w' fun e w'' => e = .returned (.string (strOf ((l.take i).map lowB))) ∧ Below w'.heap.size w' w'') := fun w' => lower_any (l.take i) w' (let_ascii h3 hbt) (by rw [List.length_take]; omega)
    have HF : Bx (furV h l = sayV h ((l.take i).map lowB) (l.drop (i + 2))) := ⟨by unfold furV; rw [h1]⟩
    have hvl : (l.drop (i + 2)).length ≤ 1000000 := by rw [List.length_drop]; omega
    have hnb := low_byt hbt
    have HBD := Bx.mk hbd
    clear C0 h4 h1 h3 h2 hbt hbd
    generalize l.drop (i + 2) = v at *
    generalize (l.take i).map lowB = nm at *
    have e1 : ((strOf nm).toList == [97, 117, 116, 104, 111, 114, 105, 122, 97, 116, 105, 111, 110]) = decide (nm = authN) := lit_eq hnb authN (byt_dec (by decide)) _ rfl
    have e2 : ((strOf nm).toList == [99, 111, 110, 116, 101, 110, 116, 45, 108, 101, 110, 103, 116, 104]) = decide (nm = lenN) := lit_eq hnb lenN (byt_dec (by decide)) _ rfl
    have e3 : ((strOf nm).toList == [116, 114, 97, 110, 115, 102, 101, 114, 45, 101, 110, 99, 111, 100, 105, 110, 103]) = decide (nm = encN) := lit_eq hnb encN (byt_dec (by decide)) _ rfl
    generalize hsn : strOf nm = sn at *
    clear hsn hnb
    generalize strOf (l.take i) = st at *
    generalize hsv : strOf v = sw at C1
    have HSV := Bx.mk hsv
    clear hsv
    by_cases n1 : nm = authN
    · rw [decide_eq_true n1] at e1
      have HG : Bx (furV h l = sayV h authN v) := ⟨by rw [HF.out, n1]⟩
      clear e2 e3 n1 HF
      go_enter Tryz.func54, Tryz.ntmps54
      go_wp2_with fail
      refine C1.out.mono ?_
      rintro e w1 ⟨rfl, n, rfl⟩
      go_wp2_with fail
      refine (C2.out _).mono ?_
      rintro e w' ⟨rfl, rfl⟩
      go_wp2_with fail
      refine (C3.out _).mono ?_
      rintro e w2 ⟨rfl, hb⟩
      have HK : Bx (Below w.heap.size w w2) := ⟨bstep (a := w) (b := w.drewN n) (below_drewN (Below.refl _ _) n) hb⟩
      clear hb
      go_wp2_with fail
      rw [← HSV.out]
      refine (wauth_any g own h v lines cnt line LV cr _ (HH.out.below HK.out) HBD.out).mono ?_
      rintro e w3 ⟨rfl, hm3, hk3⟩
      have HM3 := Bx.mk hm3
      have HK3 := Bx.mk ((Kept.of_below (own := own) HK.out).trans' hk3)
      clear hm3 hk3
      generalize hE : (sayV h authN v).2 = E
      have HE := Bx.mk hE
      clear hE
      go_wp2
      go_ret
      refine ⟨by rw [HG.out, HE.out]; rfl, ?_, HK3.out⟩
      unfold furH; rw [HG.out]; exact HM3.out
    · rw [decide_eq_false n1] at e1
      by_cases n2 : nm = lenN
      · rw [decide_eq_true n2] at e2
        have HG : Bx (furV h l = sayV h lenN v) := ⟨by rw [HF.out, n2]⟩
        clear e3 n1 n2 HF
        go_enter Tryz.func54, Tryz.ntmps54
        go_wp2_with fail
        refine C1.out.mono ?_
        rintro e w1 ⟨rfl, n, rfl⟩
        go_wp2_with fail
        refine (C2.out _).mono ?_
        rintro e w' ⟨rfl, rfl⟩
        go_wp2_with fail
        refine (C3.out _).mono ?_
        rintro e w2 ⟨rfl, hb⟩
        have HK : Bx (Below w.heap.size w w2) := ⟨bstep (a := w) (b := w.drewN n) (below_drewN (Below.refl _ _) n) hb⟩
        clear hb
        go_wp2_with fail
        rw [← HSV.out]
        refine (wmeas_any B g own h v lines cnt line LV cr _ (HH.out.below HK.out) HBD.out hvl (HENV.out.below (HK.out.mono HBB.out))).mono ?_
        rintro e w3 ⟨rfl, hm3, hk3⟩
        have HM3 := Bx.mk hm3
        have HK3 := Bx.mk ((Kept.of_below (own := own) HK.out).trans' hk3)
        clear hm3 hk3
        generalize hE : (sayV h lenN v).2 = E
        have HE := Bx.mk hE
        clear hE
        go_wp2
        go_ret
        refine ⟨by rw [HG.out, HE.out]; rfl, ?_, HK3.out⟩
        unfold furH; rw [HG.out]; exact HM3.out
      · rw [decide_eq_false n2] at e2
        by_cases n3 : nm = encN
        · rw [decide_eq_true n3] at e3
          have HG : Bx (furV h l = sayV h encN v) := ⟨by rw [HF.out, n3]⟩
          clear n1 n2 n3 HF
          go_enter Tryz.func54, Tryz.ntmps54
          go_wp2_with fail
          refine C1.out.mono ?_
          rintro e w1 ⟨rfl, n, rfl⟩
          go_wp2_with fail
          refine (C2.out _).mono ?_
          rintro e w' ⟨rfl, rfl⟩
          go_wp2_with fail
          refine (C3.out _).mono ?_
          rintro e w2 ⟨rfl, hb⟩
          have HK : Bx (Below w.heap.size w w2) := ⟨bstep (a := w) (b := w.drewN n) (below_drewN (Below.refl _ _) n) hb⟩
          clear hb
          go_wp2_with fail
          rw [← HSV.out]
          refine (wpart_any g own h v lines cnt line LV cr _ (HH.out.below HK.out) HBD.out).mono ?_
          rintro e w3 ⟨rfl, hm3, hk3⟩
          have HM3 := Bx.mk hm3
          have HK3 := Bx.mk ((Kept.of_below (own := own) HK.out).trans' hk3)
          clear hm3 hk3
          generalize hE : (sayV h encN v).2 = E
          have HE := Bx.mk hE
          clear hE
          go_wp2
          go_ret
          refine ⟨by rw [HG.out, HE.out]; rfl, ?_, HK3.out⟩
          unfold furH; rw [HG.out]; exact HM3.out
        · rw [decide_eq_false n3] at e3
          have HG : Bx (furV h l = (h, 0)) := ⟨by rw [HF.out]; unfold sayV; rw [if_neg n1, if_neg n3, if_neg n2]⟩
          clear n1 n2 n3 HF
          go_enter Tryz.func54, Tryz.ntmps54
          go_wp2_with fail
          refine C1.out.mono ?_
          rintro e w1 ⟨rfl, n, rfl⟩
          go_wp2_with fail
          refine (C2.out _).mono ?_
          rintro e w' ⟨rfl, rfl⟩
          go_wp2_with fail
          refine (C3.out _).mono ?_
          rintro e w2 ⟨rfl, hb⟩
          have HK : Bx (Below w.heap.size w w2) := ⟨bstep (a := w) (b := w.drewN n) (below_drewN (Below.refl _ _) n) hb⟩
          clear hb
          go_wp2
          go_ret
          refine ⟨by rw [HG.out]; rfl, ?_, Kept.of_below HK.out⟩
          unfold furH; rw [HG.out]; exact HH.out.below HK.out
  · have HF : Bx (furV h l = (h, 4)) := ⟨by unfold furV; rw [h1]⟩
    clear h1
    rcases h2 with h2 | ⟨i, hi, h3, h4⟩
    · rw [h2] at C0
      have C1 : Hid (Calls Tryz.prog 67 #[.string (strOf l), .string ⟨#[58, 32]⟩] w fun e w' => e = .returned (.tuple #[.string (strOf l), .string ⟨#[]⟩, .bool false]) ∧ ∃ n, w' = w.drewN n) := C0
      clear C0 h2
      generalize strOf l = s at C1
      go_enter Tryz.func54, Tryz.ntmps54
      go_wp2_with fail
      refine C1.out.mono ?_
      rintro e w1 ⟨rfl, n, rfl⟩
      go_wp2
      go_ret
      refine ⟨by rw [HF.out]; rfl, ?_, (Kept.refl _ _).drewN _⟩
      unfold furH; rw [HF.out]; exact HH.out.drewN n
    · rw [h4] at C0
      have C1 : Hid (Calls Tryz.prog 67 #[.string (strOf l), .string ⟨#[58, 32]⟩] w fun e w' => e = .returned (.tuple #[.string (strOf (l.take i)), .string (strOf (l.drop (i + 2))), .bool true]) ∧ ∃ n, w' = w.drewN n) := C0
      have C2 : Hid (∀ w', Calls Tryz.prog 68 #[.string (strOf (l.take i))] w' fun e w'' => e = .returned (.bool false) ∧ w'' = w') := fun w' => by have := wname_any (l.take i) w' (hl.take i) (by rw [List.length_take]; omega); rwa [h3] at this
      clear C0 h4 h3 hi
      generalize strOf (l.take i) = st at *
      generalize strOf (l.drop (i + 2)) = sw at *
      generalize strOf l = s at C1
      go_enter Tryz.func54, Tryz.ntmps54
      go_wp2_with fail
      refine C1.out.mono ?_
      rintro e w1 ⟨rfl, n, rfl⟩
      go_wp2_with fail
      refine (C2.out _).mono ?_
      rintro e w' ⟨rfl, rfl⟩
      go_wp2
      go_ret
      refine ⟨by rw [HF.out]; rfl, ?_, (Kept.refl _ _).drewN _⟩
      unfold furH; rw [HF.out]; exact HH.out.drewN n
end Go.Proofs.YtdameoejigpnhabGreatDoor
namespace Go.Proofs.YtdameoejigpnhabGreatDoor
open Go.RowKit
set_option linter.unusedVariables false

def fstE (l : List Int) : Int := match fstV l with | none => 4 | some _ => 0
def fstH (h : HD) (l : List Int) : HD := match fstV l with | none => h | some (m, t) => { h with m := m, t := t }
set_option maxRecDepth 100000 in
theorem pcs_byt (c : Int) : ∀ (l : List Int), Byt l → ∀ p ∈ pcsI c l, Byt p ∧ p.length ≤ l.length
  | [], _, p, hp => by
    simp [pcsI] at hp
    subst hp
    exact ⟨Byt.nil, Nat.le_refl _⟩
  | a :: r, hl, p, hp => by
    have ih := pcs_byt c r (fun d hd => hl d (by simp [hd]))
    have ha := hl a (by simp)
    unfold pcsI at hp
    split at hp
    · rcases List.mem_cons.1 hp with rfl | hp
      · exact ⟨Byt.nil, by simp⟩
      · have := ih p hp; exact ⟨this.1, by simp; omega⟩
    · split at hp
      · rename_i q qs he
        rcases List.mem_cons.1 hp with rfl | hp
        · have := ih q (by rw [he]; simp); exact ⟨Byt.cons ha this.1, by simp; omega⟩
        · have := ih p (by rw [he]; simp [hp]); exact ⟨this.1, by simp; omega⟩
      · simp at hp; subst hp; exact ⟨Byt.cons ha Byt.nil, by simp⟩
set_option maxRecDepth 100000 in
theorem sv_get (P : List ByteArray) (j : Nat) : (sv P)[j]? = (P[j]?).map Value.string := by unfold sv; rw [List.getElem?_map]
set_option maxRecDepth 100000 in
set_option maxHeartbeats 1000000 in
theorem wfirst_any (g : Nat) (own : Nat → Prop) (h : HD) (l : List Int) (cnt : Nat) (line : List Int) (LV : Value) (cr : Bool) (w : World) (hm : Hm w g own (hmOf h 0 cnt line LV cr)) (hl : Byt l) (hll : l.length ≤ 1000000) :
    Calls Tryz.prog 53 #[.pointer (some ⟨g, 1, none⟩), .string (strOf l)] w fun e w' => e = .returned (.int .i64 (fstE l)) ∧ Hm w' g own (hmOf (fstH h l) 0 cnt line LV cr) ∧ Kept own w w' := by
  have C0 : Hid (Calls Tryz.prog 64 #[.string (strOf l), .int .u8 32, .int .i64 3] w (FP (cb 32) (strOf l) 3 w)) := fields_any (strOf l) 32 3 w (by rw [strOf_size]; omega)
  unfold FP fOk fL at C0
  rw [pcs_link 32 (by decide) l hl] at C0
  have HH := Bx.mk hm
  have HB := Bx.mk (pcs_byt 32 l hl)
  have hgl := hm.lt g hm.og
  clear hm
  by_cases h3 : (pcsI 32 l).length = 3
  · obtain ⟨m, t, v, hp⟩ : ∃ m t v, pcsI 32 l = [m, t, v] := by
      match hq : pcsI 32 l, h3 with
      | [m, t, v], _ => exact ⟨m, t, v, rfl⟩
    rw [hp] at C0 HB
    have hbm := HB.out m (by simp)
    have hbt := HB.out t (by simp)
    have hbv := HB.out v (by simp)
    have HV : Bx (fstV l = if v = versM ∧ (m = getM ∨ m = postM ∨ m = putM) ∧ tgB t = true then some (strOf m, strOf t) else none) := ⟨by unfold fstV; rw [hp]⟩
    rw [if_pos (by simp)] at C0
    have C1 : Hid (∀ wr, Calls Tryz.prog 65 #[.string (strOf m)] wr fun e w' => e = .returned (.bool (mthB m)) ∧ w' = wr) := fun wr => wmethod_any m wr hbm.1
    have C2 : Hid (∀ wr, Calls Tryz.prog 66 #[.string (strOf t)] wr fun e w' => e = .returned (.bool (tgB t)) ∧ w' = wr) := fun wr => wtarget_any t wr hbt.1 (by omega)
    have e3 : ((strOf v).toList == [72, 84, 84, 80, 47, 49, 46, 49]) = decide (v = versM) := lit_eq hbv.1 versM (byt_dec (by decide)) _ rfl
    have HMT : Bx ((mthB m = true) ↔ (m = getM ∨ m = postM ∨ m = putM)) := ⟨by unfold mthB; simp only [Bool.or_eq_true, decide_eq_true_eq]; exact ⟨fun h => by rcases h with h | h | h <;> simp [h], fun h => by rcases h with h | h | h <;> simp [h]⟩⟩
    have HVB : Bx (fstV l = if (mthB m && tgB t && decide (v = versM)) = true then some (strOf m, strOf t) else none) := ⟨by
      have hi : (v = versM ∧ (m = getM ∨ m = postM ∨ m = putM) ∧ tgB t = true) ↔ ((mthB m && tgB t && decide (v = versM)) = true) := by
        rw [← HMT.out]
        simp only [Bool.and_eq_true, decide_eq_true_eq]
        exact ⟨fun ⟨a, b, c⟩ => ⟨⟨b, c⟩, a⟩, fun ⟨⟨b, c⟩, a⟩ => ⟨a, b, c⟩⟩
      rw [HV.out]
      by_cases hz : v = versM ∧ (m = getM ∨ m = postM ∨ m = putM) ∧ tgB t = true
      · rw [if_pos hz, if_pos (hi.1 hz)]
      · rw [if_neg hz, if_neg (fun k => hz (hi.2 k))]⟩
    generalize mthB m = b1 at C1 HVB
    generalize tgB t = b2 at C2 HVB
    generalize decide (v = versM) = b3 at e3 HVB
    simp only [List.map_cons, List.map_nil] at C0
    clear hp h3 hbm hbt hbv HV HMT HB
    generalize hsm : strOf m = sm at *
    generalize hst : strOf t = st at *
    generalize hsv : strOf v = sw at *
    generalize strOf l = s at *
    clear hsm hst hsv
    -- the three pieces lie in a new row
    cases b1 with
    | false =>
      have HE : Bx (fstV l = none) := ⟨by rw [HVB.out]; rfl⟩
      go_enter Tryz.func53, Tryz.ntmps53
      go_wp2_with fail
      refine C0.out.mono ?_
      rintro e w1 ⟨vv, rfl, ho, hb⟩
      have HB1 := Bx.mk hb
      obtain ⟨g2, cap, rfl, hg2, _⟩ := owns_form ho (by simp)
      have d0 : w1.cell? ⟨g2, 0, none⟩ = some (.string sm) := by rw [ho.cellAt 0 (by simp)]; rfl
      have d1 : w1.cell? ⟨g2, 1, none⟩ = some (.string st) := by rw [ho.cellAt 1 (by simp)]; rfl
      have d2 : w1.cell? ⟨g2, 2, none⟩ = some (.string sw) := by rw [ho.cellAt 2 (by simp)]; rfl
      have hne : g2 ≠ g := by omega
      clear ho hb
      go_wp2_with fail
      refine (C1.out _).mono ?_
      rintro e w' ⟨rfl, rfl⟩
      go_wp2
      go_ret
      refine ⟨by unfold fstE; rw [HE.out]; rfl, ?_, Kept.of_below HB1.out⟩
      unfold fstH; rw [HE.out]; exact HH.out.below HB1.out
    | true =>
      cases b2 with
      | false =>
        have HE : Bx (fstV l = none) := ⟨by rw [HVB.out]; rfl⟩
        go_enter Tryz.func53, Tryz.ntmps53
        go_wp2_with fail
        refine C0.out.mono ?_
        rintro e w1 ⟨vv, rfl, ho, hb⟩
        have HB1 := Bx.mk hb
        obtain ⟨g2, cap, rfl, hg2, _⟩ := owns_form ho (by simp)
        have d0 : w1.cell? ⟨g2, 0, none⟩ = some (.string sm) := by rw [ho.cellAt 0 (by simp)]; rfl
        have d1 : w1.cell? ⟨g2, 1, none⟩ = some (.string st) := by rw [ho.cellAt 1 (by simp)]; rfl
        have d2 : w1.cell? ⟨g2, 2, none⟩ = some (.string sw) := by rw [ho.cellAt 2 (by simp)]; rfl
        have hne : g2 ≠ g := by omega
        clear ho hb
        go_wp2_with fail
        refine (C1.out _).mono ?_
        rintro e w' ⟨rfl, rfl⟩
        go_wp2_with fail
        refine (C2.out _).mono ?_
        rintro e w' ⟨rfl, rfl⟩
        go_wp2
        go_ret
        refine ⟨by unfold fstE; rw [HE.out]; rfl, ?_, Kept.of_below HB1.out⟩
        unfold fstH; rw [HE.out]; exact HH.out.below HB1.out
      | true =>
        cases b3 with
        | false =>
          have HE : Bx (fstV l = none) := ⟨by rw [HVB.out]; rfl⟩
          go_enter Tryz.func53, Tryz.ntmps53
          go_wp2_with fail
          refine C0.out.mono ?_
          rintro e w1 ⟨vv, rfl, ho, hb⟩
          have HB1 := Bx.mk hb
          obtain ⟨g2, cap, rfl, hg2, _⟩ := owns_form ho (by simp)
          have d0 : w1.cell? ⟨g2, 0, none⟩ = some (.string sm) := by rw [ho.cellAt 0 (by simp)]; rfl
          have d1 : w1.cell? ⟨g2, 1, none⟩ = some (.string st) := by rw [ho.cellAt 1 (by simp)]; rfl
          have d2 : w1.cell? ⟨g2, 2, none⟩ = some (.string sw) := by rw [ho.cellAt 2 (by simp)]; rfl
          have hne : g2 ≠ g := by omega
          clear ho hb
          go_wp2_with fail
          refine (C1.out _).mono ?_
          rintro e w' ⟨rfl, rfl⟩
          go_wp2_with fail
          refine (C2.out _).mono ?_
          rintro e w' ⟨rfl, rfl⟩
          go_wp2
          go_ret
          refine ⟨by unfold fstE; rw [HE.out]; rfl, ?_, Kept.of_below HB1.out⟩
          unfold fstH; rw [HE.out]; exact HH.out.below HB1.out
        | true =>
          have HE : Bx (fstV l = some (sm, st)) := ⟨by rw [HVB.out]; rfl⟩
          go_enter Tryz.func53, Tryz.ntmps53
          go_wp2_with fail
          refine C0.out.mono ?_
          rintro e w1 ⟨vv, rfl, ho, hb⟩
          have HB1 := Bx.mk hb
          obtain ⟨g2, cap, rfl, hg2, _⟩ := owns_form ho (by simp)
          have d0 : w1.cell? ⟨g2, 0, none⟩ = some (.string sm) := by rw [ho.cellAt 0 (by simp)]; rfl
          have d1 : w1.cell? ⟨g2, 1, none⟩ = some (.string st) := by rw [ho.cellAt 1 (by simp)]; rfl
          have d2 : w1.cell? ⟨g2, 2, none⟩ = some (.string sw) := by rw [ho.cellAt 2 (by simp)]; rfl
          have hne : g2 ≠ g := by omega
          clear ho hb
          go_wp2_with fail
          refine (C1.out _).mono ?_
          rintro e w' ⟨rfl, rfl⟩
          go_wp2_with fail
          refine (C2.out _).mono ?_
          rintro e w' ⟨rfl, rfl⟩
          have HH2 : Bx (Hm w' g own (hmOf h 0 cnt line LV cr)) := ⟨HH.out.below HB1.out⟩
          have c4 := HH2.out.c4
          have f4 := HH2.out.fz 4
          have c5 := (HH2.out.sM sm).c5
          have f5 := (HH2.out.sM sm).fz 5
          have HF : Bx (Hm ((w'.setCell ⟨g, 4, none⟩ (.string sm)).setCell ⟨g, 5, none⟩ (.string st)) g own (hmOf (fstH h l) 0 cnt line LV cr) ∧ Kept own w ((w'.setCell ⟨g, 4, none⟩ (.string sm)).setCell ⟨g, 5, none⟩ (.string st))) := ⟨by
            refine ⟨?_, (HH2.out.sM sm).kset' (HH2.out.kset' (Kept.of_below HB1.out) _ _) _ _⟩
            have h5 := (HH2.out.sM sm).sT st
            unfold fstH; rw [HE.out]; exact h5⟩
          go_wp2_with fail
          go_region
          go_wp2
          go_ret
          exact ⟨by unfold fstE; rw [HE.out]; rfl, Bk.keep HF.out.1 (fun _ _ => rfl) (Nat.le_refl _), HF.out.2.drew⟩
  · have HE : Bx (fstV l = none) := ⟨by
      unfold fstV
      match hq : pcsI 32 l, h3 with
      | [], _ => rfl
      | [_], _ => rfl
      | [_, _], _ => rfl
      | [_, _, _], h => exact absurd rfl h
      | _ :: _ :: _ :: _ :: _, _ => rfl⟩
    generalize hq : (pcsI 32 l).map strOf = P at C0
    have hqn : ¬ P.length = 3 := by rw [← hq, List.length_map]; exact h3
    have hfl : ¬ (if (P.length : Int) ≤ 3 then P else []).length = 3 := by
      split
      · exact hqn
      · simp
    generalize (if (P.length : Int) ≤ 3 then P else []) = F at C0 hfl
    generalize decide ((P.length : Int) ≤ 3) = D at C0
    clear hq hqn h3 HB
    have hfi : ((F.length : Int) != 3) = true := by simp; omega
    clear hfl
    go_enter Tryz.func53, Tryz.ntmps53
    go_wp2_with fail
    refine C0.out.mono ?_
    rintro e w1 ⟨vv, rfl, ho, hb⟩
    have HB1 := Bx.mk hb
    obtain ⟨ao, cap, rfl⟩ := owns_slice ho
    clear ho hb
    go_wp2
    go_ret
    refine ⟨by unfold fstE; rw [HE.out]; rfl, ?_, Kept.of_below HB1.out⟩
    unfold fstH; rw [HE.out]; exact HH.out.below HB1.out
end Go.Proofs.YtdameoejigpnhabGreatDoor
