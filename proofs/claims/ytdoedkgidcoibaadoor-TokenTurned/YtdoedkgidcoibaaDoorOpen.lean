/- What Claim and Open answer. -/
import Derived.Test.YtdoedkgidcoibaaDoorRead
import Derived.Test.YtdoedkgidcoibaaDoorMint
namespace Go.Proofs.YtdoedkgidcoibaaDoor
open Go.RowKit
set_option linter.unusedVariables false

/-- what Claim answers -/
def cE (s : ByteArray) : Int := if (readV s).isSome then 0 else 4
/-- what Open answers: the name, the time, the error -/
def opn (k : List Int) (s : ByteArray) (now : Int) : ByteArray × Int × Int :=
  match readV s with
  | none => (⟨#[]⟩, 0, 4)
  | some (n, v, l) => if l = mkS k n v then if v ≤ now then (⟨#[]⟩, 0, 8) else (n, v, 0) else (⟨#[]⟩, 0, 7)
theorem opn_none {k : List Int} {s : ByteArray} {now : Int} (h : readV s = none) : opn k s now = (⟨#[]⟩, 0, 4) := by unfold opn; rw [h]
theorem opn_sign {k : List Int} {s n : ByteArray} {v now : Int} {l : List Int} (h : readV s = some (n, v, l)) (hl : ¬ l = mkS k n v) : opn k s now = (⟨#[]⟩, 0, 7) := by unfold opn; rw [h]; simp only []; rw [if_neg hl]
theorem opn_over {k : List Int} {s n : ByteArray} {v now : Int} {l : List Int} (h : readV s = some (n, v, l)) (hl : l = mkS k n v) (ht : v ≤ now) : opn k s now = (⟨#[]⟩, 0, 8) := by unfold opn; rw [h]; simp only []; rw [if_pos hl, if_pos ht]
theorem opn_good {k : List Int} {s n : ByteArray} {v now : Int} {l : List Int} (h : readV s = some (n, v, l)) (hl : l = mkS k n v) (ht : ¬ v ≤ now) : opn k s now = (n, v, 0) := by unfold opn; rw [h]; simp only []; rw [if_pos hl, if_neg ht]
theorem rd_facts {s n : ByteArray} {v : Int} {l : List Int} (h : readV s = some (n, v, l)) : rN s = n ∧ rV s = v ∧ rL s = l ∧ (readV s).isSome = true := by
  unfold rN rV rL; rw [h]; exact ⟨rfl, rfl, rfl, rfl⟩
theorem rd_nofacts {s : ByteArray} (h : readV s = none) : rN s = ⟨#[]⟩ ∧ rV s = 0 ∧ rL s = [] ∧ (readV s).isSome = false := by
  unfold rN rV rL; rw [h]; exact ⟨rfl, rfl, rfl, rfl⟩
structure LayE (w : World) : Prop where
  lay : Lay w
  errs : Errs w
theorem LayE.below {w w' : World} (h : LayE w) (hb : Below w.heap.size w w') : LayE w' := ⟨h.lay.below hb, h.errs.below hb⟩
theorem pass_new (w : World) (n : ByteArray) (v : Int) : RC n v w (w.alloc (.cells #[.string n, .int .i64 v] 35)) := ⟨(Below.refl _ _).alloc (Nat.le_refl _) _, heap_alloc_new _ _⟩
theorem ret_claim {s n : ByteArray} {v x : Int} (h1 : n = rN s) (h2 : v = rV s) (h3 : x = cE s) : Ending.returned (.tuple #[.agg #[.string n, .int .i64 v], .int .i64 x]) = .returned (.tuple #[.agg #[.string (rN s), .int .i64 (rV s)], .int .i64 (cE s)]) := by rw [h1, h2, h3]
theorem ret_opn {k : List Int} {s n : ByteArray} {now v x : Int} (h : opn k s now = (n, v, x)) : Ending.returned (.tuple #[.agg #[.string n, .int .i64 v], .int .i64 x]) = .returned (.tuple #[.agg #[.string (opn k s now).1, .int .i64 (opn k s now).2.1], .int .i64 (opn k s now).2.2]) := by rw [h]
set_option maxRecDepth 100000 in
set_option maxHeartbeats 1000000 in
theorem claim_any (s : ByteArray) (w : World) (hs : s.size ≤ 300) (hl : LayE w) :
    Calls Tryd.prog 18 #[.string s] w fun e w' => e = .returned (.tuple #[.agg #[.string (rN s), .int .i64 (rV s)], .int .i64 (cE s)]) ∧ Below w.heap.size w w' := by
  go_enter Tryd.func18, Tryd.ntmps18
  go_wp2_with fail
  have hc := rc_new w
  generalize w.alloc (.cells #[.string ⟨#[]⟩, .int .i64 0] 35) = w0 at hc ⊢
  replace hl := hl.below hc.low
  refine (tread_any s _ hs hl.lay.tens hl.errs).mono ?_
  rintro e w1 ⟨a1, m1, c1, rfl, hB, hb1⟩
  replace hc := hc.step hb1
  clear hb1 hl hB
  cases hr : readV s with
  | none =>
    obtain ⟨e1, e2, _, _⟩ := rd_nofacts hr
    have HC : Hid (4 = cE s) := by show _ = _; unfold cE; rw [hr]; rfl
    have HE : Hid (⟨#[]⟩ = rN s ∧ 0 = rV s) := ⟨e1.symm, e2.symm⟩
    rw [e1, e2]
    simp only [Option.isSome_none]
    clear e1 e2 hr
    have hp := pass_new w1 ⟨#[]⟩ 0
    replace hc := hc.step hp.low
    clear hp
    have c0 := hc.at0
    have c1 := hc.at1
    have f0 := hc.fr0
    have f1 := hc.fr1
    go_wp2_with fail
    replace hc := hc.put2 (m := ⟨#[]⟩) (u := 0)
    clear c0 c1 f0 f1
    generalize ((w1.alloc (.cells #[.string ⟨#[]⟩, .int .i64 0] 35)).setCell ⟨w.heap.size, 0, none⟩ (.string ⟨#[]⟩)).setCell ⟨w.heap.size, 1, none⟩ (.int .i64 0) = w9 at hc ⊢
    exact bodyPost_ret (v := .tuple #[.agg #[.string ⟨#[]⟩, .int .i64 0], .int .i64 4]) (by simp [results, Tryd.results18, go_sem, hc.at0, hc.at1]) rfl ⟨ret_claim HE.out.1 HE.out.2 HC.out, hc.low⟩
  | some r =>
    obtain ⟨n, v, l⟩ := r
    obtain ⟨e1, e2, _, _⟩ := rd_facts hr
    have HC : Hid (0 = cE s) := by show _ = _; unfold cE; rw [hr]; rfl
    have HE : Hid (n = rN s ∧ v = rV s) := ⟨e1.symm, e2.symm⟩
    rw [e1, e2]
    simp only [Option.isSome_some]
    clear e1 e2 hr
    have hp := pass_new w1 n v
    replace hc := hc.step hp.low
    have p0 := hp.at0
    have p1 := hp.at1
    have c0 := hc.at0
    have c1 := hc.at1
    have f0 := hc.fr0
    have f1 := hc.fr1
    go_wp2_with fail
    replace hc := hc.put2 (m := n) (u := v)
    clear c0 c1 f0 f1
    generalize ((w1.alloc (.cells #[.string n, .int .i64 v] 35)).setCell ⟨w.heap.size, 0, none⟩ (.string n)).setCell ⟨w.heap.size, 1, none⟩ (.int .i64 v) = w9 at hc ⊢
    exact bodyPost_ret (v := .tuple #[.agg #[.string n, .int .i64 v], .int .i64 0]) (by simp [results, Tryd.results18, go_sem, hc.at0, hc.at1]) rfl ⟨ret_claim HE.out.1 HE.out.2 HC.out, hc.low⟩
set_option maxRecDepth 100000 in
set_option maxHeartbeats 1000000 in
theorem open_any (a : Option Addr) (len cap : Nat) (k : List Int) (s : ByteArray) (now : Int) (w : World) (hk : Bts w a len cap k) (hlen : len ≤ 300) (hs : s.size ≤ 300) (hl : LayE w) :
    Calls Tryd.prog 16 #[.slice a len cap, .string s, .int .i64 now] w fun e w' => e = .returned (.tuple #[.agg #[.string (opn k s now).1, .int .i64 (opn k s now).2.1], .int .i64 (opn k s now).2.2]) ∧ Below w.heap.size w w' := by
  go_enter Tryd.func16, Tryd.ntmps16
  go_wp2_with fail
  have hc := rc_new w
  generalize w.alloc (.cells #[.string ⟨#[]⟩, .int .i64 0] 35) = w0 at hc ⊢
  replace hl := hl.below hc.low
  replace hk := hk.below hc.low
  refine (tread_any s _ hs hl.lay.tens hl.errs).mono ?_
  rintro e w1 ⟨a1, m1, c1, rfl, hB, hb1⟩
  replace hc := hc.step hb1
  replace hl := hl.below hb1
  replace hk := hk.below hb1
  clear hb1
  cases hr : readV s with
  | none =>
    obtain ⟨e1, e2, _, _⟩ := rd_nofacts hr
    have HO : Hid (opn k s now = (⟨#[]⟩, 0, 4)) := opn_none hr
    rw [e1, e2]
    simp only [Option.isSome_none]
    clear e1 e2 hr hB hk hl
    have hp := pass_new w1 ⟨#[]⟩ 0
    replace hc := hc.step hp.low
    clear hp
    have c0 := hc.at0
    have c1 := hc.at1
    have f0 := hc.fr0
    have f1 := hc.fr1
    go_wp2_with fail
    replace hc := hc.put2 (m := ⟨#[]⟩) (u := 0)
    clear c0 c1 f0 f1
    generalize ((w1.alloc (.cells #[.string ⟨#[]⟩, .int .i64 0] 35)).setCell ⟨w.heap.size, 0, none⟩ (.string ⟨#[]⟩)).setCell ⟨w.heap.size, 1, none⟩ (.int .i64 0) = w9 at hc ⊢
    exact bodyPost_ret (v := .tuple #[.agg #[.string ⟨#[]⟩, .int .i64 0], .int .i64 4]) (by simp [results, Tryd.results16, go_sem, hc.at0, hc.at1]) rfl ⟨ret_opn HO.out, hc.low⟩
  | some r =>
    obtain ⟨n, v, l⟩ := r
    obtain ⟨e1, e2, e3, _⟩ := rd_facts hr
    have HR : Hid (readV s = some (n, v, l)) := hr
    obtain ⟨hform, hsays⟩ := readV_some hr
    have h0 := hsays.lo
    have h1 := hsays.hi
    have hll := hsays.len
    have hn : n.size ≤ 300 := Nat.le_trans hsays.name.2.1 (by decide)
    rw [e3] at hB
    rw [e1, e2]
    simp only [Option.isSome_some]
    clear e1 e2 e3 hr hform hsays
    have hp := pass_new w1 n v
    replace hc := hc.step hp.low
    replace hB := hB.below hp.low
    replace hk := hk.below hp.low
    replace hl := hl.below hp.low
    have p0 := hp.at0
    have p1 := hp.at1
    go_wp2_with fail
    obtain ⟨B, hBB⟩ : ∃ B, B = w1.heap.size := ⟨_, rfl⟩
    rw [← hBB] at p0 p1 ⊢
    have hlt : B < (w1.alloc (.cells #[.string n, .int .i64 v] 35)).heap.size := by rw [hBB]; simp
    clear hp
    generalize w1.alloc (.cells #[.string n, .int .i64 v] 35) = w2 at hc hB hk hl p0 p1 hlt ⊢
    clear hBB
    refine (claimText_any n v _ hn (by omega) (by omega) hl.lay.tens).mono ?_
    rintro e w3 ⟨rfl, hb3⟩
    have hcz : (claimB n v).size ≤ 400 := by rw [claim_size]; have := decS_size (n := v) (by omega) (by omega); omega
    have HS : Bx (mkS k n v = macL k (strL (claimB n v))) := ⟨rfl⟩
    generalize claimB n v = S at hcz HS ⊢
    have hcv := Lib.run_convert_string_bytes (P := Tryd.prog) w3 9 22 5 S Tryd.underlying9 Tryd.underlying22 Tryd.underlying5
    have hb4 := bytes_low w3 5 S
    have ht4 := bytes_bts w3 S (by unfold maxLen; omega)
    generalize Lib.bytesWorld w3 5 S = w4 at hcv hb4 ht4
    generalize grownCap w3 S.size 0 5 = cp at hcv ht4
    replace hb4 := bstep hb3 hb4
    replace hc := hc.step hb4
    replace hB := hB.below hb4
    replace hk := hk.below hb4
    replace hl := hl.below hb4
    replace p0 := (hb4.cell (p := ⟨B, 0, none⟩) hlt).trans p0
    replace p1 := (hb4.cell (p := ⟨B, 1, none⟩) hlt).trans p1
    replace hlt := Nat.lt_of_lt_of_le hlt hb4.size
    clear hb3 hb4
    go_wp2_with fail
    refine (check_any a _ _ len S.size _ cap cp _ k (strL S) l _ hk ht4 hB hl.lay.tab (by omega) (by omega)).mono ?_
    rintro e w5 ⟨rfl, hb5⟩
    replace hc := hc.step hb5
    replace p0 := (hb5.cell (p := ⟨B, 0, none⟩) hlt).trans p0
    replace p1 := (hb5.cell (p := ⟨B, 1, none⟩) hlt).trans p1
    clear hb5 hlt hcv ht4 hB hk hl
    by_cases hq : l = macL k (strL S)
    · have HQ : Hid (l = mkS k n v) := by show _ = _; rw [HS.out]; exact hq
      rw [decide_eq_true hq]
      clear hq HS
      by_cases hnow : v ≤ now
      · have HO : Hid (opn k s now = (⟨#[]⟩, 0, 8)) := opn_over HR.out HQ.out hnow
        clear HR HQ
        have c0 := hc.at0
        have c1 := hc.at1
        have f0 := hc.fr0
        have f1 := hc.fr1
        go_wp2_with fail
        replace hc := hc.put2 (m := ⟨#[]⟩) (u := 0)
        clear c0 c1 f0 f1
        generalize ((w5).setCell ⟨w.heap.size, 0, none⟩ (.string ⟨#[]⟩)).setCell ⟨w.heap.size, 1, none⟩ (.int .i64 0) = w9 at hc ⊢
        exact bodyPost_ret (v := .tuple #[.agg #[.string ⟨#[]⟩, .int .i64 0], .int .i64 8]) (by simp [results, Tryd.results16, go_sem, hc.at0, hc.at1]) rfl ⟨ret_opn HO.out, hc.low⟩
      · have HO : Hid (opn k s now = (n, v, 0)) := opn_good HR.out HQ.out hnow
        clear HR HQ
        have c0 := hc.at0
        have c1 := hc.at1
        have f0 := hc.fr0
        have f1 := hc.fr1
        go_wp2_with fail
        replace hc := hc.put2 (m := n) (u := v)
        clear c0 c1 f0 f1
        generalize ((w5).setCell ⟨w.heap.size, 0, none⟩ (.string n)).setCell ⟨w.heap.size, 1, none⟩ (.int .i64 v) = w9 at hc ⊢
        exact bodyPost_ret (v := .tuple #[.agg #[.string n, .int .i64 v], .int .i64 0]) (by simp [results, Tryd.results16, go_sem, hc.at0, hc.at1]) rfl ⟨ret_opn HO.out, hc.low⟩
    · have HO : Hid (opn k s now = (⟨#[]⟩, 0, 7)) := opn_sign HR.out (by rw [HS.out]; exact hq)
      rw [decide_eq_false hq]
      clear hq HS HR
      have c0 := hc.at0
      have c1 := hc.at1
      have f0 := hc.fr0
      have f1 := hc.fr1
      go_wp2_with fail
      replace hc := hc.put2 (m := ⟨#[]⟩) (u := 0)
      clear c0 c1 f0 f1
      generalize ((w5).setCell ⟨w.heap.size, 0, none⟩ (.string ⟨#[]⟩)).setCell ⟨w.heap.size, 1, none⟩ (.int .i64 0) = w9 at hc ⊢
      exact bodyPost_ret (v := .tuple #[.agg #[.string ⟨#[]⟩, .int .i64 0], .int .i64 7]) (by simp [results, Tryd.results16, go_sem, hc.at0, hc.at1]) rfl ⟨ret_opn HO.out, hc.low⟩
end Go.Proofs.YtdoedkgidcoibaaDoor
