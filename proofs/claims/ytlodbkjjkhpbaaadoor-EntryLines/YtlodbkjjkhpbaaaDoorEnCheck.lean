/- What Check answers. -/
import Derived.Test.YtlodbkjjkhpbaaaDoorEnMem
import Derived.Test.YtlodbkjjkhpbaaaDoorWcMem
import Derived.BigQuiet
import Derived.Deep.CutRange
namespace Go.Proofs.YtlodbkjjkhpbaaaDoor
open Go.RowKit
set_option linter.unusedVariables false

/-- within limits -/
def wIn (x lo hi : Int) : Bool := decide (lo ≤ x) && decide (x ≤ hi)
set_option maxRecDepth 100000 in
theorem wIn_iff {x lo hi : Int} : wIn x lo hi = true ↔ lo ≤ x ∧ x ≤ hi := by unfold wIn; simp
set_option maxRecDepth 100000 in
theorem wIn_no {x lo hi : Int} : wIn x lo hi = false ↔ ¬ (lo ≤ x ∧ x ≤ hi) := by rw [← wIn_iff]; simp
set_option maxRecDepth 100000 in
theorem within_int (x lo hi : Int) (w : World) :
    Calls Tryd.prog 23 #[.int .i64 x, .int .i64 lo, .int .i64 hi] w fun e w' => e = .returned (.bool (wIn x lo hi)) ∧ w = w' := by
  unfold wIn
  by_cases h1 : lo ≤ x
  · by_cases h2 : x ≤ hi
    · rw [decide_eq_true h1, decide_eq_true h2]
      have d1 : decide (lo ≤ x) = true := decide_eq_true h1
      have d2 : decide (x ≤ hi) = true := decide_eq_true h2
      go_enter Tryd.func23, Tryd.ntmps23
      go_wp2
      go_ret
      exact ⟨rfl, rfl⟩
    · rw [decide_eq_true h1, decide_eq_false h2]
      have d1 : decide (lo ≤ x) = true := decide_eq_true h1
      have d2 : decide (x ≤ hi) = false := decide_eq_false h2
      go_enter Tryd.func23, Tryd.ntmps23
      go_wp2
      go_ret
      exact ⟨rfl, rfl⟩
  · rw [decide_eq_false h1, Bool.false_and]
    have d1 : decide (lo ≤ x) = false := decide_eq_false h1
    go_enter Tryd.func23, Tryd.ntmps23
    go_wp2
    go_ret
    exact ⟨rfl, rfl⟩
set_option maxRecDepth 100000 in
theorem ordO_bad {o : List Int} {i : Nat} (hi : i < o.length) (h : okO o i = false) : ordO o = false := by
  unfold ordO
  rw [List.all_eq_false]
  exact ⟨i, List.mem_range.2 hi, by rw [h]; decide⟩
set_option maxHeartbeats 4000000 in
set_option maxRecDepth 100000 in
theorem once20_any (a : Option Addr) (len cap : Nat) (o : List Int) (w : World) (h : Ivs w a len cap o) :
    Calls Tryd.prog 28 #[.slice a len cap] w fun e w' => e = .returned (.bool (ordO o)) ∧ Below w.heap.size w w' := by
  have H := Bx.mk h
  have HLEN : Bx (o.length = len) := ⟨h.len_eq⟩
  have hm := Nat.le_trans h.le_cap h.cap_le
  unfold maxLen at hm
  obtain ⟨gw, HGW⟩ : ∃ gw, Bx (gw = w.heap.size) := ⟨_, ⟨rfl⟩⟩
  have HW0 := Bx.mk (wc_new w)
  rw [← HGW.out] at HW0
  have HB0 : Bx (Below w.heap.size w (w.alloc (.cells #[.bool false, .bool false, .bool false, .bool false, .bool false, .bool false, .bool false, .bool false, .bool false, .bool false, .bool false, .bool false, .bool false, .bool false, .bool false, .bool false, .bool false, .bool false, .bool false, .bool false, .bool false, .bool false, .bool false, .bool false, .bool false, .bool false, .bool false, .bool false, .bool false, .bool false, .bool false, .bool false, .bool false, .bool false, .bool false, .bool false, .bool false, .bool false, .bool false, .bool false, .bool false, .bool false, .bool false, .bool false, .bool false, .bool false, .bool false, .bool false, .bool false, .bool false, .bool false, .bool false, .bool false, .bool false, .bool false, .bool false, .bool false, .bool false, .bool false, .bool false, .bool false, .bool false, .bool false, .bool false] 66))) := ⟨(Below.refl _ _).alloc (Nat.le_refl _) _⟩
  clear h
  go_enter Tryd.func28, Tryd.ntmps28
  go_wp2_with fail
  rw [← HGW.out]
  generalize w.alloc (.cells #[.bool false, .bool false, .bool false, .bool false, .bool false, .bool false, .bool false, .bool false, .bool false, .bool false, .bool false, .bool false, .bool false, .bool false, .bool false, .bool false, .bool false, .bool false, .bool false, .bool false, .bool false, .bool false, .bool false, .bool false, .bool false, .bool false, .bool false, .bool false, .bool false, .bool false, .bool false, .bool false, .bool false, .bool false, .bool false, .bool false, .bool false, .bool false, .bool false, .bool false, .bool false, .bool false, .bool false, .bool false, .bool false, .bool false, .bool false, .bool false, .bool false, .bool false, .bool false, .bool false, .bool false, .bool false, .bool false, .bool false, .bool false, .bool false, .bool false, .bool false, .bool false, .bool false, .bool false, .bool false] 66) = w0 at HW0 HB0 ⊢
  go_loopw [8] (fun i wr => ∃ m : Nat, m ≤ len ∧ i = .int .i64 m ∧ Bx ((List.range m).all (okO o) = true) ∧ Bx (WC wr gw (fun d => (o.take m).contains d)) ∧ Bx (Below w.heap.size w wr)) (fun i _ => len - (intOf i).toNat)
  case atStart => exact ⟨0, Nat.zero_le _, rfl, ⟨rfl⟩, ⟨HW0.out⟩, HB0⟩
  case round =>
    clear HW0 HB0
    obtain ⟨m, hml, rfl, HOK, HW, HB⟩ := hrel
    by_cases hlt : m < len
    · have hkI : (m : Int) < (len : Int) := by omega
      have hmL : m < o.length := by rw [HLEN.out]; exact hlt
      obtain ⟨b, off, rfl, _, x0⟩ := (H.out.below HB.out).iv m hlt 0
      have HBAD : Bx (okO o m = false → ordO o = false) := ⟨ordO_bad hmL⟩
      have HOKN : Bx (okO o m = (wIn (o.getD m 0) 0 63 && !(o.take m).contains (o.getD m 0))) := ⟨rfl⟩
      have HTK : Bx (o.take (m + 1) = o.take m ++ [o.getD m 0]) := ⟨take_iv o m hmL⟩
      generalize o.getD m 0 = x at x0 HOKN HTK
      go_wp2_with fail
      refine (within_int x 0 63 _).mono ?_
      rintro e w1 ⟨rfl, hw1⟩
      subst hw1
      cases hin : wIn x 0 63 with
      | false =>
        have HF : Bx (ordO o = false) := ⟨HBAD.out (by rw [HOKN.out, hin]; rfl)⟩
        clear hin
        go_wp2_with fail
        go_ret
        exact ⟨by rw [HF.out]; rfl, HB.out⟩
      | true =>
        rw [hin] at HOKN
        obtain ⟨c, rfl⟩ : ∃ c : Nat, x = c := ⟨x.toNat, by have := (wIn_iff.1 hin).1; omega⟩
        have hc : c < 64 := by have := (wIn_iff.1 hin).2; omega
        obtain ⟨z0, z1⟩ := HW.out.cell c hc
        have hcI : (c : Int) < 64 := by omega
        clear hin
        try simp only at z0
        cases hst : (o.take m).contains (c : Int) with
        | true =>
          rw [hst] at z0
          have HF : Bx (ordO o = false) := ⟨HBAD.out (by rw [HOKN.out, hst]; simp)⟩
          clear hst
          go_wp2_with fail
          go_ret
          exact ⟨by rw [HF.out]; rfl, HB.out⟩
        | false =>
          rw [hst] at z0
          have HOK2 : Bx ((List.range (m + 1)).all (okO o) = true) := ⟨all_snoc HOK.out (by rw [HOKN.out, hst]; rfl)⟩
          have HW2 : Bx (WC (wr.setCell ⟨gw, c, none⟩ (.bool true)) gw (fun d => (o.take (m + 1)).contains d)) := ⟨HW.out.set c (by omega) true (fun d => by
            rw [HTK.out, List.contains_eq_mem, List.contains_eq_mem]
            by_cases e : d = (c : Int)
            · rw [if_pos e]; simp [e]
            · rw [if_neg e]; simp [e])⟩
          have HB2 : Bx (Below w.heap.size w (wr.setCell ⟨gw, c, none⟩ (.bool true))) := ⟨HB.out.setCell (p := ⟨gw, c, none⟩) (by rw [HGW.out]; exact Nat.le_refl _) _⟩
          clear hst HOKN HBAD HTK
          go_wp2_with fail
          go_roundw
          case rel => exact ⟨m + 1, by omega, by go_num, HOK2, HW2, HB2⟩
          case measure => simp [intOf]; omega
    · have hkI : ¬ (m : Int) < (len : Int) := by omega
      have HF : Bx (ordO o = true) := ⟨by
        have hml2 : m = o.length := by rw [HLEN.out]; omega
        unfold ordO; rw [← hml2]; exact HOK.out⟩
      go_wp2_with fail
      go_ret
      exact ⟨by rw [HF.out]; rfl, HB.out⟩
/-- a verdict can be -/
def vdB (k r : Int) (o : List Int) : Bool := wIn k 1 4 && wIn r 0 1073741824 && (o.isEmpty || (k == 1 && ordO o))
set_option maxRecDepth 100000 in
theorem canN_vdB (e : En) : canN e = (wIn e.j 0 63 && wIn e.t 0 1099511627776 && vdB e.k e.r e.o) := by
  rw [Bool.eq_iff_iff, canN_iff, numO_iff]
  unfold vdB
  simp only [Bool.and_eq_true, Bool.or_eq_true, wIn_iff, List.isEmpty_iff, beq_iff_eq]
  constructor
  · rintro ⟨⟨h1, h2, h3, h4, h5, h6, h7, h8⟩, h9, h10⟩
    exact ⟨⟨⟨h1, h2⟩, h3, h4⟩, ⟨⟨h5, h6⟩, h7, h8⟩, by rcases h9 with h | h; exact .inr ⟨h, h10⟩; exact .inl h⟩
  · rintro ⟨⟨⟨h1, h2⟩, h3, h4⟩, ⟨⟨h5, h6⟩, h7, h8⟩, h9⟩
    refine ⟨⟨h1, h2, h3, h4, h5, h6, h7, h8⟩, ?_⟩
    rcases h9 with h | ⟨h, h10⟩
    · exact ⟨.inr h, by rw [h]; rfl⟩
    · exact ⟨.inl h, h10⟩
set_option maxHeartbeats 4000000 in
set_option maxRecDepth 100000 in
theorem verd_any (k r : Int) (a : Option Addr) (len cap : Nat) (o : List Int) (w : World) (h : Ivs w a len cap o) :
    Calls Tryd.prog 24 #[.agg #[.int .i64 k, .slice a len cap, .int .i64 r]] w fun e w' => e = .returned (.bool (vdB k r o)) ∧ Below w.heap.size w w' := by
  have HLEN : Bx (o.length = len) := ⟨h.len_eq⟩
  have hb0 : Below w.heap.size w (w.alloc (.cells #[.int .i64 k, .slice a len cap, .int .i64 r] 26)) := (Below.refl _ _).alloc (Nat.le_refl _) _
  have hr0 := heap_alloc_new w (.cells #[.int .i64 k, .slice a len cap, .int .i64 r] 26)
  obtain ⟨g0, HG⟩ : ∃ g0, Bx (g0 = w.heap.size) := ⟨_, ⟨rfl⟩⟩
  rw [← HG.out] at hr0
  have HB := Bx.mk hb0
  have H := Bx.mk (h.below hb0)
  have HR := Bx.mk hr0
  have hm := Nat.le_trans h.le_cap h.cap_le
  unfold maxLen at hm
  clear h hb0 hr0
  go_enter Tryd.func24, Tryd.ntmps24
  go_upto_region 1 with fail
  rw [← HG.out]
  generalize w.alloc (.cells #[.int .i64 k, .slice a len cap, .int .i64 r] 26) = wa at HB H HR ⊢
  have c0 := cell_of_row _ g0 0 _ _ (0, 0) HR.out
  have c1 := cell_of_row _ g0 1 _ _ (0, 0) HR.out
  have c2 := cell_of_row _ g0 2 _ _ (0, 0) HR.out
  go_wp2_with fail
  refine (within_int k 1 4 _).mono ?_
  rintro e w1 ⟨rfl, hw1⟩
  subst hw1
  cases h1 : wIn k 1 4 with
  | false =>
    have HF : Bx (vdB k r o = false) := ⟨by unfold vdB; rw [h1]; simp⟩
    clear h1 c0 c1 c2
    go_wp2_with fail
    go_ret
    exact ⟨by rw [HF.out]; rfl, HB.out⟩
  | true =>
    go_wp2_with fail
    refine (within_int r 0 1073741824 _).mono ?_
    rintro e w1 ⟨rfl, hw1⟩
    subst hw1
    cases h2 : wIn r 0 1073741824 with
    | false =>
      have HF : Bx (vdB k r o = false) := ⟨by unfold vdB; rw [h1, h2]; simp⟩
      clear h1 h2 c0 c1 c2
      go_wp2_with fail
      go_ret
      exact ⟨by rw [HF.out]; rfl, HB.out⟩
    | true =>
      by_cases hn : len = 0
      · have HF : Bx (vdB k r o = true) := ⟨by
          obtain rfl : o = [] := List.eq_nil_of_length_eq_zero (by rw [HLEN.out]; exact hn)
          unfold vdB; rw [h1, h2]; rfl⟩
        have hq : ((len : Int) == 0) = true := by simp; omega
        clear h1 h2 hn
        go_wp2_with fail
        go_ret
        exact ⟨by rw [HF.out]; rfl, HB.out⟩
      · have hq : ((len : Int) == 0) = false := by simp; omega
        have HO : Bx (o.isEmpty = false) := ⟨by
          cases o with
          | nil => exact absurd HLEN.out.symm hn
          | cons x t => rfl⟩
        cases hk : (k == 1) with
        | false =>
          have HF : Bx (vdB k r o = false) := ⟨by unfold vdB; rw [HO.out, hk]; simp⟩
          clear h1 h2 hn
          go_wp2_with fail
          go_ret
          exact ⟨by rw [HF.out]; rfl, HB.out⟩
        | true =>
          have HF : Bx (vdB k r o = ordO o) := ⟨by unfold vdB; rw [HO.out, hk, h1, h2]; rfl⟩
          clear h1 h2 hn
          go_wp2_with fail
          refine (once20_any a len cap o _ H.out).mono ?_
          rintro e w1 ⟨rfl, hb1⟩
          have HB1 := Bx.mk (bstep HB.out hb1)
          clear hb1
          go_wp2_with fail
          go_ret
          exact ⟨by rw [HF.out]; rfl, HB1.out⟩
set_option maxHeartbeats 4000000 in
set_option maxRecDepth 100000 in
theorem check20_any (e : En) (a : Option Addr) (len cap : Nat) (w : World) (h : Ivs w a len cap e.o) (hd : EnD e) :
    Calls Tryd.prog 17 #[.agg (enA e a len cap)] w fun x w' => x = .returned (.int .i64 (chkN e)) ∧ Below w.heap.size w w' := by
  have hb0 : Below w.heap.size w (w.alloc (.cells (enA e a len cap) 28)) := (Below.refl _ _).alloc (Nat.le_refl _) _
  have hr0 := EnB.new (a := a) (n := len) (c := cap) w hd
  obtain ⟨g0, HG⟩ : ∃ g0, Bx (g0 = w.heap.size) := ⟨_, ⟨rfl⟩⟩
  rw [← HG.out] at hr0
  have HB := Bx.mk hb0
  have H := Bx.mk (h.below hb0)
  have HR := Bx.mk hr0
  clear h hb0 hr0
  go_enter Tryd.func17, Tryd.ntmps17
  go_upto_region 1 with fail
  rw [← HG.out]
  generalize w.alloc (.cells (enA e a len cap) 28) = wa at HB H HR ⊢
  have c0 := HR.out.c0
  have c1 := HR.out.c1
  have c2 := HR.out.c66
  have c3 := HR.out.c67
  have c4 := HR.out.c68
  go_wp2_with fail
  refine (within_int e.j 0 63 _).mono ?_
  rintro x w1 ⟨rfl, hw1⟩
  subst hw1
  cases h1 : wIn e.j 0 63 with
  | false =>
    have HF : Bx (chkN e = 2) := ⟨by unfold chkN; rw [canN_vdB, h1]; rfl⟩
    clear h1 c0 c1 c2 c3 c4
    go_wp2_with fail
    go_ret
    exact ⟨by rw [HF.out]; rfl, HB.out⟩
  | true =>
    go_wp2_with fail
    refine (within_int e.t 0 1099511627776 _).mono ?_
    rintro x w1 ⟨rfl, hw1⟩
    subst hw1
    cases h2 : wIn e.t 0 1099511627776 with
    | false =>
      have HF : Bx (chkN e = 2) := ⟨by unfold chkN; rw [canN_vdB, h1, h2]; rfl⟩
      clear h1 h2 c0 c1 c2 c3 c4
      go_wp2_with fail
      go_ret
      exact ⟨by rw [HF.out]; rfl, HB.out⟩
    | true =>
      go_wp2_with fail
      refine (verd_any e.k e.r a len cap e.o _ H.out).mono ?_
      rintro x w1 ⟨rfl, hb1⟩
      have HB1 := Bx.mk (bstep HB.out hb1)
      clear hb1
      cases h3 : vdB e.k e.r e.o with
      | false =>
        have HF : Bx (chkN e = 2) := ⟨by unfold chkN; rw [canN_vdB, h1, h2, h3]; rfl⟩
        clear h1 h2 h3
        go_wp2_with fail
        go_ret
        exact ⟨by rw [HF.out]; rfl, HB1.out⟩
      | true =>
        have HF : Bx (chkN e = 0) := ⟨by unfold chkN; rw [canN_vdB, h1, h2, h3]; rfl⟩
        clear h1 h2 h3
        go_wp2_with fail
        go_ret
        exact ⟨by rw [HF.out]; rfl, HB1.out⟩
end Go.Proofs.YtlodbkjjkhpbaaaDoor
