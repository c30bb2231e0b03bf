/- What Check answers. What the document's own Check answers. -/
import Derived.Test.YtbednfacipphhaaDoorEnMem
import Derived.Test.YtbednfacipphhaaDoorAuam
import Derived.BigQuiet
import Derived.Deep.CutRange
namespace Go.Proofs.YtbednfacipphhaaDoor
open Go.RowKit
set_option linter.unusedVariables false

/-- within limits -/
def wIn (x lo hi : Int) : Bool := decide (lo ≤ x) && decide (x ≤ hi)
set_option maxRecDepth 100000 in
theorem wIn_iff {x lo hi : Int} : wIn x lo hi = true ↔ lo ≤ x ∧ x ≤ hi := by unfold wIn; simp
set_option maxRecDepth 100000 in
theorem wIn_no {x lo hi : Int} : wIn x lo hi = false ↔ ¬ (lo ≤ x ∧ x ≤ hi) := by rw [← wIn_iff]; simp
set_option maxRecDepth 100000 in
theorem within_int (x lo hi : Int) (w : World) :
    Calls Tryd.prog 95 #[.int .i64 x, .int .i64 lo, .int .i64 hi] w fun e w' => e = .returned (.bool (wIn x lo hi)) ∧ w = w' := by
  unfold wIn
  by_cases h1 : lo ≤ x
  · by_cases h2 : x ≤ hi
    · rw [decide_eq_true h1, decide_eq_true h2]
      have d1 : decide (lo ≤ x) = true := decide_eq_true h1
      have d2 : decide (x ≤ hi) = true := decide_eq_true h2
      go_enter Tryd.func95, Tryd.ntmps95
      go_wp2
      go_ret
      exact ⟨rfl, rfl⟩
    · rw [decide_eq_true h1, decide_eq_false h2]
      have d1 : decide (lo ≤ x) = true := decide_eq_true h1
      have d2 : decide (x ≤ hi) = false := decide_eq_false h2
      go_enter Tryd.func95, Tryd.ntmps95
      go_wp2
      go_ret
      exact ⟨rfl, rfl⟩
  · rw [decide_eq_false h1, Bool.false_and]
    have d1 : decide (lo ≤ x) = false := decide_eq_false h1
    go_enter Tryd.func95, Tryd.ntmps95
    go_wp2
    go_ret
    exact ⟨rfl, rfl⟩
set_option maxRecDepth 100000 in
theorem ordO_bad {o : List Int} {i : Nat} (hi : i < o.length) (h : okO o i = false) : ordO o = false := by
  unfold ordO
  rw [List.all_eq_false]
  exact ⟨i, List.mem_range.2 hi, by rw [h]; decide⟩
set_option maxHeartbeats 4000000 in
set_option maxRecDepth 100000 in
theorem once20_any (a : Option Addr) (len cap : Nat) (o : List Int) (w : World) (h : Ivs w a len cap o) :
    Calls Tryd.prog 104 #[.slice a len cap] w fun e w' => e = .returned (.bool (ordO o)) ∧ Below w.heap.size w w' := by
  have H := Bx.mk h
  have HLEN : Bx (o.length = len) := ⟨h.len_eq⟩
  have hm := Nat.le_trans h.le_cap h.cap_le
  unfold maxLen at hm
  obtain ⟨gw, HGW⟩ : ∃ gw, Bx (gw = w.heap.size) := ⟨_, ⟨rfl⟩⟩
  have HW0 := Bx.mk (wc_new w)
  rw [← HGW.out] at HW0
  have HB0 : Bx (Below w.heap.size w (w.alloc (.cells #[.bool false, .bool false, .bool false, .bool false, .bool false, .bool false, .bool false, .bool false, .bool false, .bool false, .bool false, .bool false, .bool false, .bool false, .bool false, .bool false, .bool false, .bool false, .bool false, .bool false, .bool false, .bool false, .bool false, .bool false, .bool false, .bool false, .bool false, .bool false, .bool false, .bool false, .bool false, .bool false, .bool false, .bool false, .bool false, .bool false, .bool false, .bool false, .bool false, .bool false, .bool false, .bool false, .bool false, .bool false, .bool false, .bool false, .bool false, .bool false, .bool false, .bool false, .bool false, .bool false, .bool false, .bool false, .bool false, .bool false, .bool false, .bool false, .bool false, .bool false, .bool false, .bool false, .bool false, .bool false] 144))) := ⟨(Below.refl _ _).alloc (Nat.le_refl _) _⟩
  clear h
  go_enter Tryd.func104, Tryd.ntmps104
  go_wp2_with fail
  rw [← HGW.out]
  generalize w.alloc (.cells #[.bool false, .bool false, .bool false, .bool false, .bool false, .bool false, .bool false, .bool false, .bool false, .bool false, .bool false, .bool false, .bool false, .bool false, .bool false, .bool false, .bool false, .bool false, .bool false, .bool false, .bool false, .bool false, .bool false, .bool false, .bool false, .bool false, .bool false, .bool false, .bool false, .bool false, .bool false, .bool false, .bool false, .bool false, .bool false, .bool false, .bool false, .bool false, .bool false, .bool false, .bool false, .bool false, .bool false, .bool false, .bool false, .bool false, .bool false, .bool false, .bool false, .bool false, .bool false, .bool false, .bool false, .bool false, .bool false, .bool false, .bool false, .bool false, .bool false, .bool false, .bool false, .bool false, .bool false, .bool false] 144) = w0 at HW0 HB0 ⊢
  go_loopw [8] (fun i wr => ∃ m : Nat, m ≤ len ∧ i = .int .i64 m ∧ Bx ((List.range m).all (okO o) = true) ∧ Bx (WC wr gw (fun d => (o.take m).contains d)) ∧ Bx (Below w.heap.size w wr)) (fun i _ => len - (intOf i).toNat)
  case atStart => exact ⟨0, Nat.zero_le _, rfl, ⟨rfl⟩, ⟨HW0.out⟩, HB0⟩
  case round =>
    clear HW0 HB0
    obtain ⟨m, hml, rfl, HOK, HW, HB⟩ := hrel
    by_cases hlt : m < len
    · have hkI : (m : Int) < (len : Int) := by omega
      have hmL : m < o.length := by rw [HLEN.out]; exact hlt
      obtain ⟨b, off, rfl, _, x0⟩ := (H.out.below HB.out).iv m hlt 0
      have HBAD : Bx (okO o m = false → ordO o = false) := ⟨ordO_bad hmL⟩
      have HOKN : Bx (okO o m = (wIn (o.getD m 0) 0 63 && !(o.take m).contains (o.getD m 0))) := ⟨rfl⟩
      have HTK : Bx (o.take (m + 1) = o.take m ++ [o.getD m 0]) := ⟨take_iv o m hmL⟩
      generalize o.getD m 0 = x at x0 HOKN HTK
      go_wp2_with fail
      refine (within_int x 0 63 _).mono ?_
      rintro e w1 ⟨rfl, hw1⟩
      subst hw1
      cases hin : wIn x 0 63 with
      | false =>
        have HF : Bx (ordO o = false) := ⟨HBAD.out (by rw [HOKN.out, hin]; rfl)⟩
        clear hin
        go_wp2_with fail
        go_ret
        exact ⟨by rw [HF.out]; rfl, HB.out⟩
      | true =>
        rw [hin] at HOKN
        obtain ⟨c, rfl⟩ : ∃ c : Nat, x = c := ⟨x.toNat, by have := (wIn_iff.1 hin).1; omega⟩
        have hc : c < 64 := by have := (wIn_iff.1 hin).2; omega
        obtain ⟨z0, z1⟩ := HW.out.cell c hc
        have hcI : (c : Int) < 64 := by omega
        clear hin
        try simp only at z0
        cases hst : (o.take m).contains (c : Int) with
        | true =>
          rw [hst] at z0
          have HF : Bx (ordO o = false) := ⟨HBAD.out (by rw [HOKN.out, hst]; simp)⟩
          clear hst
          go_wp2_with fail
          go_ret
          exact ⟨by rw [HF.out]; rfl, HB.out⟩
        | false =>
          rw [hst] at z0
          have HOK2 : Bx ((List.range (m + 1)).all (okO o) = true) := ⟨all_snoc HOK.out (by rw [HOKN.out, hst]; rfl)⟩
          have HW2 : Bx (WC (wr.setCell ⟨gw, c, none⟩ (.bool true)) gw (fun d => (o.take (m + 1)).contains d)) := ⟨HW.out.set c (by omega) true (fun d => by
            rw [HTK.out, List.contains_eq_mem, List.contains_eq_mem]
            by_cases e : d = (c : Int)
            · rw [if_pos e]; simp [e]
            · rw [if_neg e]; simp [e])⟩
          have HB2 : Bx (Below w.heap.size w (wr.setCell ⟨gw, c, none⟩ (.bool true))) := ⟨HB.out.setCell (p := ⟨gw, c, none⟩) (by rw [HGW.out]; exact Nat.le_refl _) _⟩
          clear hst HOKN HBAD HTK
          go_wp2_with fail
          go_roundw
          case rel => exact ⟨m + 1, by omega, by go_num, HOK2, HW2, HB2⟩
          case measure => simp [intOf]; omega
    · have hkI : ¬ (m : Int) < (len : Int) := by omega
      have HF : Bx (ordO o = true) := ⟨by
        have hml2 : m = o.length := by rw [HLEN.out]; omega
        unfold ordO; rw [← hml2]; exact HOK.out⟩
      go_wp2_with fail
      go_ret
      exact ⟨by rw [HF.out]; rfl, HB.out⟩
/-- a verdict can be -/
def vdB (k r : Int) (o : List Int) : Bool := wIn k 1 4 && wIn r 0 1073741824 && (o.isEmpty || (k == 1 && ordO o))
set_option maxRecDepth 100000 in
theorem canN_vdB (e : En) : canN e = (wIn e.j 0 63 && wIn e.t 0 1099511627776 && vdB e.k e.r e.o) := by
  rw [Bool.eq_iff_iff, canN_iff, numO_iff]
  unfold vdB
  simp only [Bool.and_eq_true, Bool.or_eq_true, wIn_iff, List.isEmpty_iff, beq_iff_eq]
  constructor
  · rintro ⟨⟨h1, h2, h3, h4, h5, h6, h7, h8⟩, h9, h10⟩
    exact ⟨⟨⟨h1, h2⟩, h3, h4⟩, ⟨⟨h5, h6⟩, h7, h8⟩, by rcases h9 with h | h; exact .inr ⟨h, h10⟩; exact .inl h⟩
  · rintro ⟨⟨⟨h1, h2⟩, h3, h4⟩, ⟨⟨h5, h6⟩, h7, h8⟩, h9⟩
    refine ⟨⟨h1, h2, h3, h4, h5, h6, h7, h8⟩, ?_⟩
    rcases h9 with h | ⟨h, h10⟩
    · exact ⟨.inr h, by rw [h]; rfl⟩
    · exact ⟨.inl h, h10⟩
set_option maxHeartbeats 4000000 in
set_option maxRecDepth 100000 in
theorem verd_any (k r : Int) (a : Option Addr) (len cap : Nat) (o : List Int) (w : World) (h : Ivs w a len cap o) :
    Calls Tryd.prog 96 #[.agg #[.int .i64 k, .slice a len cap, .int .i64 r]] w fun e w' => e = .returned (.bool (vdB k r o)) ∧ Below w.heap.size w w' := by
  have HLEN : Bx (o.length = len) := ⟨h.len_eq⟩
  have hb0 : Below w.heap.size w (w.alloc (.cells #[.int .i64 k, .slice a len cap, .int .i64 r] 33)) := (Below.refl _ _).alloc (Nat.le_refl _) _
  have hr0 := heap_alloc_new w (.cells #[.int .i64 k, .slice a len cap, .int .i64 r] 33)
  obtain ⟨g0, HG⟩ : ∃ g0, Bx (g0 = w.heap.size) := ⟨_, ⟨rfl⟩⟩
  rw [← HG.out] at hr0
  have HB := Bx.mk hb0
  have H := Bx.mk (h.below hb0)
  have HR := Bx.mk hr0
  have hm := Nat.le_trans h.le_cap h.cap_le
  unfold maxLen at hm
  clear h hb0 hr0
  go_enter Tryd.func96, Tryd.ntmps96
  go_upto_region 1 with fail
  rw [← HG.out]
  generalize w.alloc (.cells #[.int .i64 k, .slice a len cap, .int .i64 r] 33) = wa at HB H HR ⊢
  have c0 := cell_of_row _ g0 0 _ _ (0, 0) HR.out
  have c1 := cell_of_row _ g0 1 _ _ (0, 0) HR.out
  have c2 := cell_of_row _ g0 2 _ _ (0, 0) HR.out
  go_wp2_with fail
  refine (within_int k 1 4 _).mono ?_
  rintro e w1 ⟨rfl, hw1⟩
  subst hw1
  cases h1 : wIn k 1 4 with
  | false =>
    have HF : Bx (vdB k r o = false) := ⟨by unfold vdB; rw [h1]; simp⟩
    clear h1 c0 c1 c2
    go_wp2_with fail
    go_ret
    exact ⟨by rw [HF.out]; rfl, HB.out⟩
  | true =>
    go_wp2_with fail
    refine (within_int r 0 1073741824 _).mono ?_
    rintro e w1 ⟨rfl, hw1⟩
    subst hw1
    cases h2 : wIn r 0 1073741824 with
    | false =>
      have HF : Bx (vdB k r o = false) := ⟨by unfold vdB; rw [h1, h2]; simp⟩
      clear h1 h2 c0 c1 c2
      go_wp2_with fail
      go_ret
      exact ⟨by rw [HF.out]; rfl, HB.out⟩
    | true =>
      by_cases hn : len = 0
      · have HF : Bx (vdB k r o = true) := ⟨by
          obtain rfl : o = [] := List.eq_nil_of_length_eq_zero (by rw [HLEN.out]; exact hn)
          unfold vdB; rw [h1, h2]; rfl⟩
        have hq : ((len : Int) == 0) = true := by simp; omega
        clear h1 h2 hn
        go_wp2_with fail
        go_ret
        exact ⟨by rw [HF.out]; rfl, HB.out⟩
      · have hq : ((len : Int) == 0) = false := by simp; omega
        have HO : Bx (o.isEmpty = false) := ⟨by
          cases o with
          | nil => exact absurd HLEN.out.symm hn
          | cons x t => rfl⟩
        cases hk : (k == 1) with
        | false =>
          have HF : Bx (vdB k r o = false) := ⟨by unfold vdB; rw [HO.out, hk]; simp⟩
          clear h1 h2 hn
          go_wp2_with fail
          go_ret
          exact ⟨by rw [HF.out]; rfl, HB.out⟩
        | true =>
          have HF : Bx (vdB k r o = ordO o) := ⟨by unfold vdB; rw [HO.out, hk, h1, h2]; rfl⟩
          clear h1 h2 hn
          go_wp2_with fail
          refine (once20_any a len cap o _ H.out).mono ?_
          rintro e w1 ⟨rfl, hb1⟩
          have HB1 := Bx.mk (bstep HB.out hb1)
          clear hb1
          go_wp2_with fail
          go_ret
          exact ⟨by rw [HF.out]; rfl, HB1.out⟩
set_option maxHeartbeats 4000000 in
set_option maxRecDepth 100000 in
theorem check20_any (e : En) (a : Option Addr) (len cap : Nat) (w : World) (h : Ivs w a len cap e.o) (hd : EnD e) :
    Calls Tryd.prog 69 #[.agg (enA e a len cap)] w fun x w' => x = .returned (.int .i64 (chkN e)) ∧ Below w.heap.size w w' := by
  have hb0 : Below w.heap.size w (w.alloc (.cells (enA e a len cap) 35)) := (Below.refl _ _).alloc (Nat.le_refl _) _
  have hr0 := EnB.new (a := a) (n := len) (c := cap) w hd
  obtain ⟨g0, HG⟩ : ∃ g0, Bx (g0 = w.heap.size) := ⟨_, ⟨rfl⟩⟩
  rw [← HG.out] at hr0
  have HB := Bx.mk hb0
  have H := Bx.mk (h.below hb0)
  have HR := Bx.mk hr0
  clear h hb0 hr0
  go_enter Tryd.func69, Tryd.ntmps69
  go_upto_region 1 with fail
  rw [← HG.out]
  generalize w.alloc (.cells (enA e a len cap) 35) = wa at HB H HR ⊢
  have c0 := HR.out.c0
  have c1 := HR.out.c1
  have c2 := HR.out.c66
  have c3 := HR.out.c67
  have c4 := HR.out.c68
  go_wp2_with fail
  refine (within_int e.j 0 63 _).mono ?_
  rintro x w1 ⟨rfl, hw1⟩
  subst hw1
  cases h1 : wIn e.j 0 63 with
  | false =>
    have HF : Bx (chkN e = 2) := ⟨by unfold chkN; rw [canN_vdB, h1]; rfl⟩
    clear h1 c0 c1 c2 c3 c4
    go_wp2_with fail
    go_ret
    exact ⟨by rw [HF.out]; rfl, HB.out⟩
  | true =>
    go_wp2_with fail
    refine (within_int e.t 0 1099511627776 _).mono ?_
    rintro x w1 ⟨rfl, hw1⟩
    subst hw1
    cases h2 : wIn e.t 0 1099511627776 with
    | false =>
      have HF : Bx (chkN e = 2) := ⟨by unfold chkN; rw [canN_vdB, h1, h2]; rfl⟩
      clear h1 h2 c0 c1 c2 c3 c4
      go_wp2_with fail
      go_ret
      exact ⟨by rw [HF.out]; rfl, HB.out⟩
    | true =>
      go_wp2_with fail
      refine (verd_any e.k e.r a len cap e.o _ H.out).mono ?_
      rintro x w1 ⟨rfl, hb1⟩
      have HB1 := Bx.mk (bstep HB.out hb1)
      clear hb1
      cases h3 : vdB e.k e.r e.o with
      | false =>
        have HF : Bx (chkN e = 2) := ⟨by unfold chkN; rw [canN_vdB, h1, h2, h3]; rfl⟩
        clear h1 h2 h3
        go_wp2_with fail
        go_ret
        exact ⟨by rw [HF.out]; rfl, HB1.out⟩
      | true =>
        have HF : Bx (chkN e = 0) := ⟨by unfold chkN; rw [canN_vdB, h1, h2, h3]; rfl⟩
        clear h1 h2 h3
        go_wp2_with fail
        go_ret
        exact ⟨by rw [HF.out]; rfl, HB1.out⟩
end Go.Proofs.YtbednfacipphhaaDoor
namespace Go.Proofs.YtbednfacipphhaaDoor
open Go.RowKit
set_option linter.unusedVariables false

set_option maxRecDepth 100000 in
theorem chk_ord {j t k r : Int} {DH DS o : List Int} (h : ordO o = false) : chkN ⟨j, t, DH, DS, k, r, o⟩ = 2 := by
  unfold chkN
  rw [if_neg]
  intro hc
  have := ((canN_iff _).1 hc).2.2
  simp only at this
  rw [h] at this
  cases this
set_option maxRecDepth 100000 in
theorem contains_take {o : List Int} {m i : Nat} {x : Int} (hi : i < m) (hm : m ≤ o.length) (h : o.getD i 0 = x) : (o.take m).contains x = true := by
  rw [List.contains_eq_mem, decide_eq_true_eq]
  have h2 : (o.take m)[i]? = some x := by rw [List.getElem?_take, if_pos hi, List.getElem?_eq_getElem (by omega), ← h, List.getD_eq_getElem?_getD, List.getElem?_eq_getElem (by omega)]; rfl
  exact List.mem_of_getElem? h2
set_option maxRecDepth 100000 in
theorem not_contains {o : List Int} {m : Nat} {x : Int} (h : ∀ i, i < m → i < o.length → o.getD i 0 ≠ x) : (o.take m).contains x = false := by
  rw [List.contains_eq_mem, decide_eq_false_iff_not]
  intro hx
  obtain ⟨i, hi, e⟩ := List.mem_iff_getElem.1 hx
  rw [List.length_take] at hi
  apply h i (by omega) (by omega)
  rw [List.getElem_take] at e
  rw [List.getD_eq_getElem?_getD, List.getElem?_eq_getElem (by omega), ← e]; rfl
set_option maxHeartbeats 4000000 in
set_option maxRecDepth 100000 in
theorem refcheck20_any (e : En) (a : Option Addr) (len cap : Nat) (w : World) (h : Ivs w a len cap e.o) (hd : EnD e) :
    Calls Tryd.prog 53 #[.agg (enA e a len cap)] w fun x w' => x = .returned (.int .i64 (chkN e)) ∧ Below w.heap.size w w' := by
  obtain ⟨j, t, DH, DS, k, r, o⟩ := e
  have hb0 : Below w.heap.size w (w.alloc (.cells (enA ⟨j, t, DH, DS, k, r, o⟩ a len cap) 35)) := (Below.refl _ _).alloc (Nat.le_refl _) _
  have hr0 := EnB.new (a := a) (n := len) (c := cap) w hd
  obtain ⟨g0, HG⟩ : ∃ g0, Bx (g0 = w.heap.size) := ⟨_, ⟨rfl⟩⟩
  rw [← HG.out] at hr0
  have HB := Bx.mk hb0
  have HIV := Bx.mk (h.below hb0)
  have HR := Bx.mk hr0
  have HLEN : Bx (o.length = len) := ⟨h.len_eq⟩
  have hm := Nat.le_trans h.le_cap h.cap_le
  unfold maxLen at hm
  clear h hb0 hr0
  go_enter Tryd.func53, Tryd.ntmps53
  go_upto_region 1 with fail
  rw [← HG.out]
  generalize w.alloc (.cells (enA ⟨j, t, DH, DS, k, r, o⟩ a len cap) 35) = wa at HB HIV HR ⊢
  have c0 := HR.out.c0
  have c1 := HR.out.c1
  have c2 := HR.out.c66
  have c3 := HR.out.c67
  have c4 := HR.out.c68
  simp only at c0 c1 c2 c3 c4
  have hba : Below wa.heap.size wa (wa.alloc (.cells #[.int .i64 k, .slice a len cap, .int .i64 r] 33)) := (Below.refl _ _).alloc (Nat.le_refl _) _
  have hra := heap_alloc_new wa (.cells #[.int .i64 k, .slice a len cap, .int .i64 r] 33)
  obtain ⟨g1, HG1⟩ : ∃ g1, Bx (g1 = wa.heap.size) := ⟨_, ⟨rfl⟩⟩
  rw [← HG1.out] at hra
  replace HB := Bx.mk (bstep HB.out hba)
  replace HIV := Bx.mk (HIV.out.below hba)
  replace HR := Bx.mk (HR.out.below hba)
  have HV := Bx.mk hra
  clear hba hra
  go_upto_region 2 with fail
  rw [← HG1.out]
  generalize wa.alloc (.cells #[.int .i64 k, .slice a len cap, .int .i64 r] 33) = wb at HB HIV HR HV ⊢
  clear c0 c1 c2 c3 c4
  have c0 := HR.out.c0
  have c1 := HR.out.c1
  have d0 := cell_of_row _ g1 0 _ _ (0, 0) HV.out
  have d1 := cell_of_row _ g1 1 _ _ (0, 0) HV.out
  have d2 := cell_of_row _ g1 2 _ _ (0, 0) HV.out
  simp only at c0 c1
  by_cases a1 : j < 0
  · have q1 : wIn j 0 63 = false := wIn_no.2 (by omega)
    have HF : Bx (chkN ⟨j, t, DH, DS, k, r, o⟩ = 2) := ⟨by unfold chkN; rw [canN_vdB]; unfold vdB; simp only; rw [q1]; simp⟩
    clear q1 c1 d0 d1 d2
    go_wp2_with fail
    go_ret
    exact ⟨by rw [HF.out]; rfl, HB.out⟩
  by_cases a2 : 63 < j
  · have q1 : wIn j 0 63 = false := wIn_no.2 (by omega)
    have HF : Bx (chkN ⟨j, t, DH, DS, k, r, o⟩ = 2) := ⟨by unfold chkN; rw [canN_vdB]; unfold vdB; simp only; rw [q1]; simp⟩
    clear q1 c1 d0 d1 d2
    go_wp2_with fail
    go_ret
    exact ⟨by rw [HF.out]; rfl, HB.out⟩
  have q1 : wIn j 0 63 = true := wIn_iff.2 ⟨by omega, by omega⟩
  have Q1 := Bx.mk q1
  clear q1
  by_cases a3 : t < 0
  · have q2 : wIn t 0 1099511627776 = false := wIn_no.2 (by omega)
    have HF : Bx (chkN ⟨j, t, DH, DS, k, r, o⟩ = 2) := ⟨by unfold chkN; rw [canN_vdB]; unfold vdB; simp only; rw [q2]; simp⟩
    clear q2 d0 d1 d2
    go_wp2_with fail
    go_ret
    exact ⟨by rw [HF.out]; rfl, HB.out⟩
  by_cases a4 : 1099511627776 < t
  · have q2 : wIn t 0 1099511627776 = false := wIn_no.2 (by omega)
    have HF : Bx (chkN ⟨j, t, DH, DS, k, r, o⟩ = 2) := ⟨by unfold chkN; rw [canN_vdB]; unfold vdB; simp only; rw [q2]; simp⟩
    clear q2 d0 d1 d2
    go_wp2_with fail
    go_ret
    exact ⟨by rw [HF.out]; rfl, HB.out⟩
  have Q2 : Bx (wIn t 0 1099511627776 = true) := ⟨wIn_iff.2 ⟨by omega, by omega⟩⟩
  go_upto_region 4 with fail
  clear a1 a2 a3 a4 c0 c1
  by_cases a1 : k < 1
  · have q1 : wIn k 1 4 = false := wIn_no.2 (by omega)
    have HF : Bx (chkN ⟨j, t, DH, DS, k, r, o⟩ = 2) := ⟨by unfold chkN; rw [canN_vdB]; unfold vdB; simp only; rw [q1]; simp⟩
    clear q1 d1 d2
    go_wp2_with fail
    go_ret
    exact ⟨by rw [HF.out]; rfl, HB.out⟩
  by_cases a2 : 4 < k
  · have q1 : wIn k 1 4 = false := wIn_no.2 (by omega)
    have HF : Bx (chkN ⟨j, t, DH, DS, k, r, o⟩ = 2) := ⟨by unfold chkN; rw [canN_vdB]; unfold vdB; simp only; rw [q1]; simp⟩
    clear q1 d1 d2
    go_wp2_with fail
    go_ret
    exact ⟨by rw [HF.out]; rfl, HB.out⟩
  have Q3 : Bx (wIn k 1 4 = true) := ⟨wIn_iff.2 ⟨by omega, by omega⟩⟩
  by_cases a3 : r < 0
  · have q2 : wIn r 0 1073741824 = false := wIn_no.2 (by omega)
    have HF : Bx (chkN ⟨j, t, DH, DS, k, r, o⟩ = 2) := ⟨by unfold chkN; rw [canN_vdB]; unfold vdB; simp only; rw [q2]; simp⟩
    clear q2 d1
    go_wp2_with fail
    go_ret
    exact ⟨by rw [HF.out]; rfl, HB.out⟩
  by_cases a4 : 1073741824 < r
  · have q2 : wIn r 0 1073741824 = false := wIn_no.2 (by omega)
    have HF : Bx (chkN ⟨j, t, DH, DS, k, r, o⟩ = 2) := ⟨by unfold chkN; rw [canN_vdB]; unfold vdB; simp only; rw [q2]; simp⟩
    clear q2 d1
    go_wp2_with fail
    go_ret
    exact ⟨by rw [HF.out]; rfl, HB.out⟩
  have Q4 : Bx (wIn r 0 1073741824 = true) := ⟨wIn_iff.2 ⟨by omega, by omega⟩⟩
  go_upto_region 6 with fail
  clear a1 a2 a3 a4 d2
  have HOK : Bx ((k = 1 ∨ len = 0) → ordO o = true → chkN ⟨j, t, DH, DS, k, r, o⟩ = 0) := ⟨fun h1 h2 => by
    have hc : canN ⟨j, t, DH, DS, k, r, o⟩ = true := by
      rw [canN_iff, numO_iff]
      have y1 := wIn_iff.1 Q1.out
      have y2 := wIn_iff.1 Q2.out
      have y3 := wIn_iff.1 Q3.out
      have y4 := wIn_iff.1 Q4.out
      refine ⟨⟨y1.1, y1.2, y2.1, y2.2, y3.1, y3.2, y4.1, y4.2⟩, ?_, h2⟩
      rcases h1 with h1 | h1
      · exact .inl h1
      · exact .inr (List.eq_nil_of_length_eq_zero (by rw [← h1]; exact HLEN.out))
    unfold chkN; rw [if_pos hc]⟩
  by_cases hk : k = 1
  · have HPOST : Bx (ordO o = true → chkN ⟨j, t, DH, DS, k, r, o⟩ = 0) := ⟨HOK.out (.inl hk)⟩
    have hk1 : (k != 1) = false := by simpa using hk
    clear HOK Q1 Q2 Q3 Q4 hk
    go_upto_region 8 with fail
    clear hk1 d0
    go_wp2_with fail
    go_loopw [4] (fun i wr => ∃ m : Nat, m ≤ len ∧ i = .int .i64 m ∧ Bx ((List.range m).all (okO o) = true) ∧ Bx (Below wb.heap.size wb wr)) (fun i _ => len - (intOf i).toNat)
    case atStart => exact ⟨0, Nat.zero_le _, rfl, ⟨rfl⟩, ⟨Below.refl _ _⟩⟩
    case round =>
      obtain ⟨m, hml, rfl, HOK, HBr⟩ := hrel
      have d1 := cell_of_row _ g1 1 _ _ (0, 0) ((HBr.out.block g1 (Array.getElem?_eq_some_iff.1 HV.out).1).trans HV.out)
      have HBB := Bx.mk (bstep HB.out HBr.out)
      by_cases hlt : m < len
      · have hkI : (m : Int) < (len : Int) := by omega
        have hmL : m < o.length := by rw [HLEN.out]; exact hlt
        obtain ⟨b, off, rfl, _, x0⟩ := (HIV.out.below HBr.out).iv m hlt 0
        have HBAD : Bx (okO o m = false → chkN ⟨j, t, DH, DS, k, r, o⟩ = 2) := ⟨fun h => chk_ord (ordO_bad hmL h)⟩
        have HOKN : Bx (okO o m = (wIn (o.getD m 0) 0 63 && !(o.take m).contains (o.getD m 0))) := ⟨rfl⟩
        obtain ⟨x, HX⟩ : ∃ x, Bx (o.getD m 0 = x) := ⟨_, ⟨rfl⟩⟩
        rw [HX.out] at x0 HOKN
        by_cases a1 : x < 0
        · have HF : Bx (chkN ⟨j, t, DH, DS, k, r, o⟩ = 2) := ⟨HBAD.out (by rw [HOKN.out, wIn_no.2 (by omega)]; rfl)⟩
          go_wp2_with fail
          go_ret
          exact ⟨by rw [HF.out]; rfl, HBB.out⟩
        by_cases a2 : 63 < x
        · have HF : Bx (chkN ⟨j, t, DH, DS, k, r, o⟩ = 2) := ⟨HBAD.out (by rw [HOKN.out, wIn_no.2 (by omega)]; rfl)⟩
          go_wp2_with fail
          go_ret
          exact ⟨by rw [HF.out]; rfl, HBB.out⟩
        have HIN : Bx (wIn x 0 63 = true) := ⟨wIn_iff.2 ⟨by omega, by omega⟩⟩
        rw [HIN.out] at HOKN
        go_upto_region 13 with fail
        clear a1 a2 x0 d1
        go_wp2_with fail
        go_loopw [5] (fun i wx => ∃ p : Nat, p ≤ m ∧ i = .int .i64 p ∧ Bx (∀ i, i < p → i < o.length → o.getD i 0 ≠ x) ∧ Bx (Below wb.heap.size wb wx)) (fun i _ => m - (intOf i).toNat)
        case atStart => exact ⟨0, Nat.zero_le _, rfl, ⟨fun i hi => by omega⟩, HBr⟩
        case round =>
          obtain ⟨p, hpm, rfl, HNO, HBx⟩ := hrel
          clear HBB HBr
          have HBB := Bx.mk (bstep HB.out HBx.out)
          by_cases hp : p < m
          · have hpI : (p : Int) < (m : Int) := by omega
            have d1 := cell_of_row _ g1 1 _ _ (0, 0) ((HBx.out.block g1 (Array.getElem?_eq_some_iff.1 HV.out).1).trans HV.out)
            obtain ⟨_, _, e1, _, x0⟩ := (HIV.out.below HBx.out).iv m hlt 0
            cases e1
            obtain ⟨_, _, e1, _, y0⟩ := (HIV.out.below HBx.out).iv p (by omega) 0
            cases e1
            rw [HX.out] at x0
            obtain ⟨y, HY⟩ : ∃ y, Bx (o.getD p 0 = y) := ⟨_, ⟨rfl⟩⟩
            rw [HY.out] at y0
            have hplI : (p : Int) < (len : Int) := by omega
            by_cases hxy : y = x
            · have HF : Bx (chkN ⟨j, t, DH, DS, k, r, o⟩ = 2) := ⟨HBAD.out (by rw [HOKN.out, contains_take hp (by omega) (HY.out.trans hxy)]; rfl)⟩
              have hq : (y == x) = true := by simpa using hxy
              clear hxy
              go_wp2_with fail
              go_quiet (fail)
              go_wp2_with fail
              go_ret
              exact ⟨by rw [HF.out]; rfl, below_drewN HBB.out _⟩
            · have hq : (y == x) = false := by simpa using hxy
              have HNO2 : Bx (∀ i, i < p + 1 → i < o.length → o.getD i 0 ≠ x) := ⟨fun i hi hl => by
                by_cases e : i = p
                · rw [e, HY.out]; exact hxy
                · exact HNO.out i (by omega) hl⟩
              clear hxy HNO
              go_wp2_with fail
              go_quiet (fail)
              go_wp2_with fail
              go_roundw
              case rel => exact ⟨p + 1, by omega, by go_num, HNO2, ⟨below_drewN HBx.out _⟩⟩
              case measure => simp [intOf]; omega
          · have hpI : ¬ (p : Int) < (m : Int) := by omega
            have HOK2 : Bx ((List.range (m + 1)).all (okO o) = true) := ⟨all_snoc HOK.out (by rw [HOKN.out, not_contains (fun i hi hl => HNO.out i (by omega) hl)]; rfl)⟩
            clear HOK HNO
            go_wp2_with fail
            go_roundw
            case rel => exact ⟨m + 1, by omega, by go_num, HOK2, HBx⟩
            case measure => simp [intOf]; omega
      · have hkI : ¬ (m : Int) < (len : Int) := by omega
        have HF : Bx (chkN ⟨j, t, DH, DS, k, r, o⟩ = 0) := ⟨HPOST.out (by
          have hml2 : m = o.length := by rw [HLEN.out]; omega
          unfold ordO; rw [← hml2]; exact HOK.out)⟩
        go_wp2_with fail
        go_ret
        exact ⟨by rw [HF.out]; rfl, HBB.out⟩
  · have hk1 : (k != 1) = true := by simpa using hk
    by_cases hl : 0 < len
    · have HF : Bx (chkN ⟨j, t, DH, DS, k, r, o⟩ = 2) := ⟨by
        unfold chkN; rw [if_neg]
        intro hc
        rcases ((canN_iff _).1 hc).2.1 with h1 | h1
        · exact hk h1
        · simp only at h1
          have h2 := HLEN.out
          rw [h1, List.length_nil] at h2
          omega⟩
      have hlI : (0 : Int) < (len : Int) := by omega
      clear hk
      go_wp2_with fail
      go_ret
      exact ⟨by rw [HF.out]; rfl, HB.out⟩
    · have HPOST : Bx (ordO o = true → chkN ⟨j, t, DH, DS, k, r, o⟩ = 0) := ⟨HOK.out (.inr (by omega))⟩
      have hlI : ¬ (0 : Int) < (len : Int) := by omega
      clear HOK Q1 Q2 Q3 Q4 hk
      go_upto_region 8 with fail
      clear hk1 d0
      go_wp2_with fail
      go_loopw [4] (fun i wr => ∃ m : Nat, m ≤ len ∧ i = .int .i64 m ∧ Bx ((List.range m).all (okO o) = true) ∧ Bx (Below wb.heap.size wb wr)) (fun i _ => len - (intOf i).toNat)
      case atStart => exact ⟨0, Nat.zero_le _, rfl, ⟨rfl⟩, ⟨Below.refl _ _⟩⟩
      case round =>
        obtain ⟨m, hml, rfl, HOK, HBr⟩ := hrel
        have d1 := cell_of_row _ g1 1 _ _ (0, 0) ((HBr.out.block g1 (Array.getElem?_eq_some_iff.1 HV.out).1).trans HV.out)
        have HBB := Bx.mk (bstep HB.out HBr.out)
        by_cases hlt : m < len
        · exfalso; omega
        · have hkI : ¬ (m : Int) < (len : Int) := by omega
          have HF : Bx (chkN ⟨j, t, DH, DS, k, r, o⟩ = 0) := ⟨HPOST.out (by
            have hml2 : m = o.length := by rw [HLEN.out]; omega
            unfold ordO; rw [← hml2]; exact HOK.out)⟩
          go_wp2_with fail
          go_ret
          exact ⟨by rw [HF.out]; rfl, HBB.out⟩
end Go.Proofs.YtbednfacipphhaaDoor
