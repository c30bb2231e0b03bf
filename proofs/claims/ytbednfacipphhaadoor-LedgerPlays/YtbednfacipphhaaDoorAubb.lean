/- What Check answers. What the document's own Check answers. What Encode answers, the program's and the document's own. -/
import Derived.Test.YtbednfacipphhaaDoorEnMem
import Derived.Test.YtbednfacipphhaaDoorAuam
import Derived.BigQuiet
import Derived.Deep.CutRange
import Derived.Test.YtbednfacipphhaaDoorAuat
import Derived.Test.YtbednfacipphhaaDoorAuas
import Derived.Test.YtbednfacipphhaaDoorAuaw
import Derived.Test.YtbednfacipphhaaDoorAuav
namespace Go.Proofs.YtbednfacipphhaaDoor
open Go.RowKit
set_option linter.unusedVariables false

/-- within limits -/
def wIn (x lo hi : Int) : Bool := decide (lo ≤ x) && decide (x ≤ hi)
set_option maxRecDepth 100000 in
theorem wIn_iff {x lo hi : Int} : wIn x lo hi = true ↔ lo ≤ x ∧ x ≤ hi := by unfold wIn; simp
set_option maxRecDepth 100000 in
theorem wIn_no {x lo hi : Int} : wIn x lo hi = false ↔ ¬ (lo ≤ x ∧ x ≤ hi) := by rw [← wIn_iff]; simp
set_option maxRecDepth 100000 in
theorem within_int (x lo hi : Int) (w : World) :
    Calls Tryd.prog 95 #[.int .i64 x, .int .i64 lo, .int .i64 hi] w fun e w' => e = .returned (.bool (wIn x lo hi)) ∧ w = w' := by
  unfold wIn
  by_cases h1 : lo ≤ x
  · by_cases h2 : x ≤ hi
    · rw [decide_eq_true h1, decide_eq_true h2]
      have d1 : decide (lo ≤ x) = true := decide_eq_true h1
      have d2 : decide (x ≤ hi) = true := decide_eq_true h2
      go_enter Tryd.func95, Tryd.ntmps95
      go_wp2
      go_ret
      exact ⟨rfl, rfl⟩
    · rw [decide_eq_true h1, decide_eq_false h2]
      have d1 : decide (lo ≤ x) = true := decide_eq_true h1
      have d2 : decide (x ≤ hi) = false := decide_eq_false h2
      go_enter Tryd.func95, Tryd.ntmps95
      go_wp2
      go_ret
      exact ⟨rfl, rfl⟩
  · rw [decide_eq_false h1, Bool.false_and]
    have d1 : decide (lo ≤ x) = false := decide_eq_false h1
    go_enter Tryd.func95, Tryd.ntmps95
    go_wp2
    go_ret
    exact ⟨rfl, rfl⟩
set_option maxRecDepth 100000 in
theorem ordO_bad {o : List Int} {i : Nat} (hi : i < o.length) (h : okO o i = false) : ordO o = false := by
  unfold ordO
  rw [List.all_eq_false]
  exact ⟨i, List.mem_range.2 hi, by rw [h]; decide⟩
set_option maxHeartbeats 4000000 in
set_option maxRecDepth 100000 in
theorem once20_any (a : Option Addr) (len cap : Nat) (o : List Int) (w : World) (h : Ivs w a len cap o) :
    Calls Tryd.prog 104 #[.slice a len cap] w fun e w' => e = .returned (.bool (ordO o)) ∧ Below w.heap.size w w' := by
  have H := Bx.mk h
  have HLEN : Bx (o.length = len) := ⟨h.len_eq⟩
  have hm := Nat.le_trans h.le_cap h.cap_le
  unfold maxLen at hm
  obtain ⟨gw, HGW⟩ : ∃ gw, Bx (gw = w.heap.size) := ⟨_, ⟨rfl⟩⟩
  have HW0 := Bx.mk (wc_new w)
  rw [← HGW.out] at HW0
  have HB0 : Bx (Below w.heap.size w (w.alloc (.cells #[.bool false, .bool false, .bool false, .bool false, .bool false, .bool false, .bool false, .bool false, .bool false, .bool false, .bool false, .bool false, .bool false, .bool false, .bool false, .bool false, .bool false, .bool false, .bool false, .bool false, .bool false, .bool false, .bool false, .bool false, .bool false, .bool false, .bool false, .bool false, .bool false, .bool false, .bool false, .bool false, .bool false, .bool false, .bool false, .bool false, .bool false, .bool false, .bool false, .bool false, .bool false, .bool false, .bool false, .bool false, .bool false, .bool false, .bool false, .bool false, .bool false, .bool false, .bool false, .bool false, .bool false, .bool false, .bool false, .bool false, .bool false, .bool false, .bool false, .bool false, .bool false, .bool false, .bool false, .bool false] 144))) := ⟨(Below.refl _ _).alloc (Nat.le_refl _) _⟩
  clear h
  go_enter Tryd.func104, Tryd.ntmps104
  go_wp2_with fail
  rw [← HGW.out]
  generalize w.alloc (.cells #[.bool false, .bool false, .bool false, .bool false, .bool false, .bool false, .bool false, .bool false, .bool false, .bool false, .bool false, .bool false, .bool false, .bool false, .bool false, .bool false, .bool false, .bool false, .bool false, .bool false, .bool false, .bool false, .bool false, .bool false, .bool false, .bool false, .bool false, .bool false, .bool false, .bool false, .bool false, .bool false, .bool false, .bool false, .bool false, .bool false, .bool false, .bool false, .bool false, .bool false, .bool false, .bool false, .bool false, .bool false, .bool false, .bool false, .bool false, .bool false, .bool false, .bool false, .bool false, .bool false, .bool false, .bool false, .bool false, .bool false, .bool false, .bool false, .bool false, .bool false, .bool false, .bool false, .bool false, .bool false] 144) = w0 at HW0 HB0 ⊢
  go_loopw [8] (fun i wr => ∃ m : Nat, m ≤ len ∧ i = .int .i64 m ∧ Bx ((List.range m).all (okO o) = true) ∧ Bx (WC wr gw (fun d => (o.take m).contains d)) ∧ Bx (Below w.heap.size w wr)) (fun i _ => len - (intOf i).toNat)
  case atStart => exact ⟨0, Nat.zero_le _, rfl, ⟨rfl⟩, ⟨HW0.out⟩, HB0⟩
  case round =>
    clear HW0 HB0
    obtain ⟨m, hml, rfl, HOK, HW, HB⟩ := hrel
    by_cases hlt : m < len
    · have hkI : (m : Int) < (len : Int) := by omega
      have hmL : m < o.length := by rw [HLEN.out]; exact hlt
      obtain ⟨b, off, rfl, _, x0⟩ := (H.out.below HB.out).iv m hlt 0
      have HBAD : Bx (okO o m = false → ordO o = false) := ⟨ordO_bad hmL⟩
      have HOKN : Bx (okO o m = (wIn (o.getD m 0) 0 63 && !(o.take m).contains (o.getD m 0))) := ⟨rfl⟩
      have HTK : Bx (o.take (m + 1) = o.take m ++ [o.getD m 0]) := ⟨take_iv o m hmL⟩
      generalize o.getD m 0 = x at x0 HOKN HTK
      go_wp2_with fail
      refine (within_int x 0 63 _).mono ?_
      rintro e w1 ⟨rfl, hw1⟩
      subst hw1
      cases hin : wIn x 0 63 with
      | false =>
        have HF : Bx (ordO o = false) := ⟨HBAD.out (by rw [HOKN.out, hin]; rfl)⟩
        clear hin
        go_wp2_with fail
        go_ret
        exact ⟨by rw [HF.out]; rfl, HB.out⟩
      | true =>
        rw [hin] at HOKN
        obtain ⟨c, rfl⟩ : ∃ c : Nat, x = c := ⟨x.toNat, by have := (wIn_iff.1 hin).1; omega⟩
        have hc : c < 64 := by have := (wIn_iff.1 hin).2; omega
        obtain ⟨z0, z1⟩ := HW.out.cell c hc
        have hcI : (c : Int) < 64 := by omega
        clear hin
        try simp only at z0
        cases hst : (o.take m).contains (c : Int) with
        | true =>
          rw [hst] at z0
          have HF : Bx (ordO o = false) := ⟨HBAD.out (by rw [HOKN.out, hst]; simp)⟩
          clear hst
          go_wp2_with fail
          go_ret
          exact ⟨by rw [HF.out]; rfl, HB.out⟩
        | false =>
          rw [hst] at z0
          have HOK2 : Bx ((List.range (m + 1)).all (okO o) = true) := ⟨all_snoc HOK.out (by rw [HOKN.out, hst]; rfl)⟩
          have HW2 : Bx (WC (wr.setCell ⟨gw, c, none⟩ (.bool true)) gw (fun d => (o.take (m + 1)).contains d)) := ⟨HW.out.set c (by omega) true (fun d => by
            rw [HTK.out, List.contains_eq_mem, List.contains_eq_mem]
            by_cases e : d = (c : Int)
            · rw [if_pos e]; simp [e]
            · rw [if_neg e]; simp [e])⟩
          have HB2 : Bx (Below w.heap.size w (wr.setCell ⟨gw, c, none⟩ (.bool true))) := ⟨HB.out.setCell (p := ⟨gw, c, none⟩) (by rw [HGW.out]; exact Nat.le_refl _) _⟩
          clear hst HOKN HBAD HTK
          go_wp2_with fail
          go_roundw
          case rel => exact ⟨m + 1, by omega, by go_num, HOK2, HW2, HB2⟩
          case measure => simp [intOf]; omega
    · have hkI : ¬ (m : Int) < (len : Int) := by omega
      have HF : Bx (ordO o = true) := ⟨by
        have hml2 : m = o.length := by rw [HLEN.out]; omega
        unfold ordO; rw [← hml2]; exact HOK.out⟩
      go_wp2_with fail
      go_ret
      exact ⟨by rw [HF.out]; rfl, HB.out⟩
/-- a verdict can be -/
def vdB (k r : Int) (o : List Int) : Bool := wIn k 1 4 && wIn r 0 1073741824 && (o.isEmpty || (k == 1 && ordO o))
set_option maxRecDepth 100000 in
theorem canN_vdB (e : En) : canN e = (wIn e.j 0 63 && wIn e.t 0 1099511627776 && vdB e.k e.r e.o) := by
  rw [Bool.eq_iff_iff, canN_iff, numO_iff]
  unfold vdB
  simp only [Bool.and_eq_true, Bool.or_eq_true, wIn_iff, List.isEmpty_iff, beq_iff_eq]
  constructor
  · rintro ⟨⟨h1, h2, h3, h4, h5, h6, h7, h8⟩, h9, h10⟩
    exact ⟨⟨⟨h1, h2⟩, h3, h4⟩, ⟨⟨h5, h6⟩, h7, h8⟩, by rcases h9 with h | h; exact .inr ⟨h, h10⟩; exact .inl h⟩
  · rintro ⟨⟨⟨h1, h2⟩, h3, h4⟩, ⟨⟨h5, h6⟩, h7, h8⟩, h9⟩
    refine ⟨⟨h1, h2, h3, h4, h5, h6, h7, h8⟩, ?_⟩
    rcases h9 with h | ⟨h, h10⟩
    · exact ⟨.inr h, by rw [h]; rfl⟩
    · exact ⟨.inl h, h10⟩
set_option maxHeartbeats 4000000 in
set_option maxRecDepth 100000 in
theorem verd_any (k r : Int) (a : Option Addr) (len cap : Nat) (o : List Int) (w : World) (h : Ivs w a len cap o) :
    Calls Tryd.prog 96 #[.agg #[.int .i64 k, .slice a len cap, .int .i64 r]] w fun e w' => e = .returned (.bool (vdB k r o)) ∧ Below w.heap.size w w' := by
  have HLEN : Bx (o.length = len) := ⟨h.len_eq⟩
  have hb0 : Below w.heap.size w (w.alloc (.cells #[.int .i64 k, .slice a len cap, .int .i64 r] 33)) := (Below.refl _ _).alloc (Nat.le_refl _) _
  have hr0 := heap_alloc_new w (.cells #[.int .i64 k, .slice a len cap, .int .i64 r] 33)
  obtain ⟨g0, HG⟩ : ∃ g0, Bx (g0 = w.heap.size) := ⟨_, ⟨rfl⟩⟩
  rw [← HG.out] at hr0
  have HB := Bx.mk hb0
  have H := Bx.mk (h.below hb0)
  have HR := Bx.mk hr0
  have hm := Nat.le_trans h.le_cap h.cap_le
  unfold maxLen at hm
  clear h hb0 hr0
  go_enter Tryd.func96, Tryd.ntmps96
  go_upto_region 1 with fail
  rw [← HG.out]
  generalize w.alloc (.cells #[.int .i64 k, .slice a len cap, .int .i64 r] 33) = wa at HB H HR ⊢
  have c0 := cell_of_row _ g0 0 _ _ (0, 0) HR.out
  have c1 := cell_of_row _ g0 1 _ _ (0, 0) HR.out
  have c2 := cell_of_row _ g0 2 _ _ (0, 0) HR.out
  go_wp2_with fail
  refine (within_int k 1 4 _).mono ?_
  rintro e w1 ⟨rfl, hw1⟩
  subst hw1
  cases h1 : wIn k 1 4 with
  | false =>
    have HF : Bx (vdB k r o = false) := ⟨by unfold vdB; rw [h1]; simp⟩
    clear h1 c0 c1 c2
    go_wp2_with fail
    go_ret
    exact ⟨by rw [HF.out]; rfl, HB.out⟩
  | true =>
    go_wp2_with fail
    refine (within_int r 0 1073741824 _).mono ?_
    rintro e w1 ⟨rfl, hw1⟩
    subst hw1
    cases h2 : wIn r 0 1073741824 with
    | false =>
      have HF : Bx (vdB k r o = false) := ⟨by unfold vdB; rw [h1, h2]; simp⟩
      clear h1 h2 c0 c1 c2
      go_wp2_with fail
      go_ret
      exact ⟨by rw [HF.out]; rfl, HB.out⟩
    | true =>
      by_cases hn : len = 0
      · have HF : Bx (vdB k r o = true) := ⟨by
          obtain rfl : o = [] := List.eq_nil_of_length_eq_zero (by rw [HLEN.out]; exact hn)
          unfold vdB; rw [h1, h2]; rfl⟩
        have hq : ((len : Int) == 0) = true := by simp; omega
        clear h1 h2 hn
        go_wp2_with fail
        go_ret
        exact ⟨by rw [HF.out]; rfl, HB.out⟩
      · have hq : ((len : Int) == 0) = false := by simp; omega
        have HO : Bx (o.isEmpty = false) := ⟨by
          cases o with
          | nil => exact absurd HLEN.out.symm hn
          | cons x t => rfl⟩
        cases hk : (k == 1) with
        | false =>
          have HF : Bx (vdB k r o = false) := ⟨by unfold vdB; rw [HO.out, hk]; simp⟩
          clear h1 h2 hn
          go_wp2_with fail
          go_ret
          exact ⟨by rw [HF.out]; rfl, HB.out⟩
        | true =>
          have HF : Bx (vdB k r o = ordO o) := ⟨by unfold vdB; rw [HO.out, hk, h1, h2]; rfl⟩
          clear h1 h2 hn
          go_wp2_with fail
          refine (once20_any a len cap o _ H.out).mono ?_
          rintro e w1 ⟨rfl, hb1⟩
          have HB1 := Bx.mk (bstep HB.out hb1)
          clear hb1
          go_wp2_with fail
          go_ret
          exact ⟨by rw [HF.out]; rfl, HB1.out⟩
set_option maxHeartbeats 4000000 in
set_option maxRecDepth 100000 in
theorem check20_any (e : En) (a : Option Addr) (len cap : Nat) (w : World) (h : Ivs w a len cap e.o) (hd : EnD e) :
    Calls Tryd.prog 69 #[.agg (enA e a len cap)] w fun x w' => x = .returned (.int .i64 (chkN e)) ∧ Below w.heap.size w w' := by
  have hb0 : Below w.heap.size w (w.alloc (.cells (enA e a len cap) 35)) := (Below.refl _ _).alloc (Nat.le_refl _) _
  have hr0 := EnB.new (a := a) (n := len) (c := cap) w hd
  obtain ⟨g0, HG⟩ : ∃ g0, Bx (g0 = w.heap.size) := ⟨_, ⟨rfl⟩⟩
  rw [← HG.out] at hr0
  have HB := Bx.mk hb0
  have H := Bx.mk (h.below hb0)
  have HR := Bx.mk hr0
  clear h hb0 hr0
  go_enter Tryd.func69, Tryd.ntmps69
  go_upto_region 1 with fail
  rw [← HG.out]
  generalize w.alloc (.cells (enA e a len cap) 35) = wa at HB H HR ⊢
  have c0 := HR.out.c0
  have c1 := HR.out.c1
  have c2 := HR.out.c66
  have c3 := HR.out.c67
  have c4 := HR.out.c68
  go_wp2_with fail
  refine (within_int e.j 0 63 _).mono ?_
  rintro x w1 ⟨rfl, hw1⟩
  subst hw1
  cases h1 : wIn e.j 0 63 with
  | false =>
    have HF : Bx (chkN e = 2) := ⟨by unfold chkN; rw [canN_vdB, h1]; rfl⟩
    clear h1 c0 c1 c2 c3 c4
    go_wp2_with fail
    go_ret
    exact ⟨by rw [HF.out]; rfl, HB.out⟩
  | true =>
    go_wp2_with fail
    refine (within_int e.t 0 1099511627776 _).mono ?_
    rintro x w1 ⟨rfl, hw1⟩
    subst hw1
    cases h2 : wIn e.t 0 1099511627776 with
    | false =>
      have HF : Bx (chkN e = 2) := ⟨by unfold chkN; rw [canN_vdB, h1, h2]; rfl⟩
      clear h1 h2 c0 c1 c2 c3 c4
      go_wp2_with fail
      go_ret
      exact ⟨by rw [HF.out]; rfl, HB.out⟩
    | true =>
      go_wp2_with fail
      refine (verd_any e.k e.r a len cap e.o _ H.out).mono ?_
      rintro x w1 ⟨rfl, hb1⟩
      have HB1 := Bx.mk (bstep HB.out hb1)
      clear hb1
      cases h3 : vdB e.k e.r e.o with
      | false =>
        have HF : Bx (chkN e = 2) := ⟨by unfold chkN; rw [canN_vdB, h1, h2, h3]; rfl⟩
        clear h1 h2 h3
        go_wp2_with fail
        go_ret
        exact ⟨by rw [HF.out]; rfl, HB1.out⟩
      | true =>
        have HF : Bx (chkN e = 0) := ⟨by unfold chkN; rw [canN_vdB, h1, h2, h3]; rfl⟩
        clear h1 h2 h3
        go_wp2_with fail
        go_ret
        exact ⟨by rw [HF.out]; rfl, HB1.out⟩
end Go.Proofs.YtbednfacipphhaaDoor
namespace Go.Proofs.YtbednfacipphhaaDoor
open Go.RowKit
set_option linter.unusedVariables false

set_option maxRecDepth 100000 in
theorem chk_ord {j t k r : Int} {DH DS o : List Int} (h : ordO o = false) : chkN ⟨j, t, DH, DS, k, r, o⟩ = 2 := by
  unfold chkN
  rw [if_neg]
  intro hc
  have := ((canN_iff _).1 hc).2.2
  simp only at this
  rw [h] at this
  cases this
set_option maxRecDepth 100000 in
theorem contains_take {o : List Int} {m i : Nat} {x : Int} (hi : i < m) (hm : m ≤ o.length) (h : o.getD i 0 = x) : (o.take m).contains x = true := by
  rw [List.contains_eq_mem, decide_eq_true_eq]
  have h2 : (o.take m)[i]? = some x := by rw [List.getElem?_take, if_pos hi, List.getElem?_eq_getElem (by omega), ← h, List.getD_eq_getElem?_getD, List.getElem?_eq_getElem (by omega)]; rfl
  exact List.mem_of_getElem? h2
set_option maxRecDepth 100000 in
theorem not_contains {o : List Int} {m : Nat} {x : Int} (h : ∀ i, i < m → i < o.length → o.getD i 0 ≠ x) : (o.take m).contains x = false := by
  rw [List.contains_eq_mem, decide_eq_false_iff_not]
  intro hx
  obtain ⟨i, hi, e⟩ := List.mem_iff_getElem.1 hx
  rw [List.length_take] at hi
  apply h i (by omega) (by omega)
  rw [List.getElem_take] at e
  rw [List.getD_eq_getElem?_getD, List.getElem?_eq_getElem (by omega), ← e]; rfl
set_option maxHeartbeats 4000000 in
set_option maxRecDepth 100000 in
theorem refcheck20_any (e : En) (a : Option Addr) (len cap : Nat) (w : World) (h : Ivs w a len cap e.o) (hd : EnD e) :
    Calls Tryd.prog 53 #[.agg (enA e a len cap)] w fun x w' => x = .returned (.int .i64 (chkN e)) ∧ Below w.heap.size w w' := by
  obtain ⟨j, t, DH, DS, k, r, o⟩ := e
  have hb0 : Below w.heap.size w (w.alloc (.cells (enA ⟨j, t, DH, DS, k, r, o⟩ a len cap) 35)) := (Below.refl _ _).alloc (Nat.le_refl _) _
  have hr0 := EnB.new (a := a) (n := len) (c := cap) w hd
  obtain ⟨g0, HG⟩ : ∃ g0, Bx (g0 = w.heap.size) := ⟨_, ⟨rfl⟩⟩
  rw [← HG.out] at hr0
  have HB := Bx.mk hb0
  have HIV := Bx.mk (h.below hb0)
  have HR := Bx.mk hr0
  have HLEN : Bx (o.length = len) := ⟨h.len_eq⟩
  have hm := Nat.le_trans h.le_cap h.cap_le
  unfold maxLen at hm
  clear h hb0 hr0
  go_enter Tryd.func53, Tryd.ntmps53
  go_upto_region 1 with fail
  rw [← HG.out]
  generalize w.alloc (.cells (enA ⟨j, t, DH, DS, k, r, o⟩ a len cap) 35) = wa at HB HIV HR ⊢
  have c0 := HR.out.c0
  have c1 := HR.out.c1
  have c2 := HR.out.c66
  have c3 := HR.out.c67
  have c4 := HR.out.c68
  simp only at c0 c1 c2 c3 c4
  have hba : Below wa.heap.size wa (wa.alloc (.cells #[.int .i64 k, .slice a len cap, .int .i64 r] 33)) := (Below.refl _ _).alloc (Nat.le_refl _) _
  have hra := heap_alloc_new wa (.cells #[.int .i64 k, .slice a len cap, .int .i64 r] 33)
  obtain ⟨g1, HG1⟩ : ∃ g1, Bx (g1 = wa.heap.size) := ⟨_, ⟨rfl⟩⟩
  rw [← HG1.out] at hra
  replace HB := Bx.mk (bstep HB.out hba)
  replace HIV := Bx.mk (HIV.out.below hba)
  replace HR := Bx.mk (HR.out.below hba)
  have HV := Bx.mk hra
  clear hba hra
  go_upto_region 2 with fail
  rw [← HG1.out]
  generalize wa.alloc (.cells #[.int .i64 k, .slice a len cap, .int .i64 r] 33) = wb at HB HIV HR HV ⊢
  clear c0 c1 c2 c3 c4
  have c0 := HR.out.c0
  have c1 := HR.out.c1
  have d0 := cell_of_row _ g1 0 _ _ (0, 0) HV.out
  have d1 := cell_of_row _ g1 1 _ _ (0, 0) HV.out
  have d2 := cell_of_row _ g1 2 _ _ (0, 0) HV.out
  simp only at c0 c1
  by_cases a1 : j < 0
  · have q1 : wIn j 0 63 = false := wIn_no.2 (by omega)
    have HF : Bx (chkN ⟨j, t, DH, DS, k, r, o⟩ = 2) := ⟨by unfold chkN; rw [canN_vdB]; unfold vdB; simp only; rw [q1]; simp⟩
    clear q1 c1 d0 d1 d2
    go_wp2_with fail
    go_ret
    exact ⟨by rw [HF.out]; rfl, HB.out⟩
  by_cases a2 : 63 < j
  · have q1 : wIn j 0 63 = false := wIn_no.2 (by omega)
    have HF : Bx (chkN ⟨j, t, DH, DS, k, r, o⟩ = 2) := ⟨by unfold chkN; rw [canN_vdB]; unfold vdB; simp only; rw [q1]; simp⟩
    clear q1 c1 d0 d1 d2
    go_wp2_with fail
    go_ret
    exact ⟨by rw [HF.out]; rfl, HB.out⟩
  have q1 : wIn j 0 63 = true := wIn_iff.2 ⟨by omega, by omega⟩
  have Q1 := Bx.mk q1
  clear q1
  by_cases a3 : t < 0
  · have q2 : wIn t 0 1099511627776 = false := wIn_no.2 (by omega)
    have HF : Bx (chkN ⟨j, t, DH, DS, k, r, o⟩ = 2) := ⟨by unfold chkN; rw [canN_vdB]; unfold vdB; simp only; rw [q2]; simp⟩
    clear q2 d0 d1 d2
    go_wp2_with fail
    go_ret
    exact ⟨by rw [HF.out]; rfl, HB.out⟩
  by_cases a4 : 1099511627776 < t
  · have q2 : wIn t 0 1099511627776 = false := wIn_no.2 (by omega)
    have HF : Bx (chkN ⟨j, t, DH, DS, k, r, o⟩ = 2) := ⟨by unfold chkN; rw [canN_vdB]; unfold vdB; simp only; rw [q2]; simp⟩
    clear q2 d0 d1 d2
    go_wp2_with fail
    go_ret
    exact ⟨by rw [HF.out]; rfl, HB.out⟩
  have Q2 : Bx (wIn t 0 1099511627776 = true) := ⟨wIn_iff.2 ⟨by omega, by omega⟩⟩
  go_upto_region 4 with fail
  clear a1 a2 a3 a4 c0 c1
  by_cases a1 : k < 1
  · have q1 : wIn k 1 4 = false := wIn_no.2 (by omega)
    have HF : Bx (chkN ⟨j, t, DH, DS, k, r, o⟩ = 2) := ⟨by unfold chkN; rw [canN_vdB]; unfold vdB; simp only; rw [q1]; simp⟩
    clear q1 d1 d2
    go_wp2_with fail
    go_ret
    exact ⟨by rw [HF.out]; rfl, HB.out⟩
  by_cases a2 : 4 < k
  · have q1 : wIn k 1 4 = false := wIn_no.2 (by omega)
    have HF : Bx (chkN ⟨j, t, DH, DS, k, r, o⟩ = 2) := ⟨by unfold chkN; rw [canN_vdB]; unfold vdB; simp only; rw [q1]; simp⟩
    clear q1 d1 d2
    go_wp2_with fail
    go_ret
    exact ⟨by rw [HF.out]; rfl, HB.out⟩
  have Q3 : Bx (wIn k 1 4 = true) := ⟨wIn_iff.2 ⟨by omega, by omega⟩⟩
  by_cases a3 : r < 0
  · have q2 : wIn r 0 1073741824 = false := wIn_no.2 (by omega)
    have HF : Bx (chkN ⟨j, t, DH, DS, k, r, o⟩ = 2) := ⟨by unfold chkN; rw [canN_vdB]; unfold vdB; simp only; rw [q2]; simp⟩
    clear q2 d1
    go_wp2_with fail
    go_ret
    exact ⟨by rw [HF.out]; rfl, HB.out⟩
  by_cases a4 : 1073741824 < r
  · have q2 : wIn r 0 1073741824 = false := wIn_no.2 (by omega)
    have HF : Bx (chkN ⟨j, t, DH, DS, k, r, o⟩ = 2) := ⟨by unfold chkN; rw [canN_vdB]; unfold vdB; simp only; rw [q2]; simp⟩
    clear q2 d1
    go_wp2_with fail
    go_ret
    exact ⟨by rw [HF.out]; rfl, HB.out⟩
  have Q4 : Bx (wIn r 0 1073741824 = true) := ⟨wIn_iff.2 ⟨by omega, by omega⟩⟩
  go_upto_region 6 with fail
  clear a1 a2 a3 a4 d2
  have HOK : Bx ((k = 1 ∨ len = 0) → ordO o = true → chkN ⟨j, t, DH, DS, k, r, o⟩ = 0) := ⟨fun h1 h2 => by
    have hc : canN ⟨j, t, DH, DS, k, r, o⟩ = true := by
      rw [canN_iff, numO_iff]
      have y1 := wIn_iff.1 Q1.out
      have y2 := wIn_iff.1 Q2.out
      have y3 := wIn_iff.1 Q3.out
      have y4 := wIn_iff.1 Q4.out
      refine ⟨⟨y1.1, y1.2, y2.1, y2.2, y3.1, y3.2, y4.1, y4.2⟩, ?_, h2⟩
      rcases h1 with h1 | h1
      · exact .inl h1
      · exact .inr (List.eq_nil_of_length_eq_zero (by rw [← h1]; exact HLEN.out))
    unfold chkN; rw [if_pos hc]⟩
  by_cases hk : k = 1
  · have HPOST : Bx (ordO o = true → chkN ⟨j, t, DH, DS, k, r, o⟩ = 0) := ⟨HOK.out (.inl hk)⟩
    have hk1 : (k != 1) = false := by simpa using hk
    clear HOK Q1 Q2 Q3 Q4 hk
    go_upto_region 8 with fail
    clear hk1 d0
    go_wp2_with fail
    go_loopw [4] (fun i wr => ∃ m : Nat, m ≤ len ∧ i = .int .i64 m ∧ Bx ((List.range m).all (okO o) = true) ∧ Bx (Below wb.heap.size wb wr)) (fun i _ => len - (intOf i).toNat)
    case atStart => exact ⟨0, Nat.zero_le _, rfl, ⟨rfl⟩, ⟨Below.refl _ _⟩⟩
    case round =>
      obtain ⟨m, hml, rfl, HOK, HBr⟩ := hrel
      have d1 := cell_of_row _ g1 1 _ _ (0, 0) ((HBr.out.block g1 (Array.getElem?_eq_some_iff.1 HV.out).1).trans HV.out)
      have HBB := Bx.mk (bstep HB.out HBr.out)
      by_cases hlt : m < len
      · have hkI : (m : Int) < (len : Int) := by omega
        have hmL : m < o.length := by rw [HLEN.out]; exact hlt
        obtain ⟨b, off, rfl, _, x0⟩ := (HIV.out.below HBr.out).iv m hlt 0
        have HBAD : Bx (okO o m = false → chkN ⟨j, t, DH, DS, k, r, o⟩ = 2) := ⟨fun h => chk_ord (ordO_bad hmL h)⟩
        have HOKN : Bx (okO o m = (wIn (o.getD m 0) 0 63 && !(o.take m).contains (o.getD m 0))) := ⟨rfl⟩
        obtain ⟨x, HX⟩ : ∃ x, Bx (o.getD m 0 = x) := ⟨_, ⟨rfl⟩⟩
        rw [HX.out] at x0 HOKN
        by_cases a1 : x < 0
        · have HF : Bx (chkN ⟨j, t, DH, DS, k, r, o⟩ = 2) := ⟨HBAD.out (by rw [HOKN.out, wIn_no.2 (by omega)]; rfl)⟩
          go_wp2_with fail
          go_ret
          exact ⟨by rw [HF.out]; rfl, HBB.out⟩
        by_cases a2 : 63 < x
        · have HF : Bx (chkN ⟨j, t, DH, DS, k, r, o⟩ = 2) := ⟨HBAD.out (by rw [HOKN.out, wIn_no.2 (by omega)]; rfl)⟩
          go_wp2_with fail
          go_ret
          exact ⟨by rw [HF.out]; rfl, HBB.out⟩
        have HIN : Bx (wIn x 0 63 = true) := ⟨wIn_iff.2 ⟨by omega, by omega⟩⟩
        rw [HIN.out] at HOKN
        go_upto_region 13 with fail
        clear a1 a2 x0 d1
        go_wp2_with fail
        go_loopw [5] (fun i wx => ∃ p : Nat, p ≤ m ∧ i = .int .i64 p ∧ Bx (∀ i, i < p → i < o.length → o.getD i 0 ≠ x) ∧ Bx (Below wb.heap.size wb wx)) (fun i _ => m - (intOf i).toNat)
        case atStart => exact ⟨0, Nat.zero_le _, rfl, ⟨fun i hi => by omega⟩, HBr⟩
        case round =>
          obtain ⟨p, hpm, rfl, HNO, HBx⟩ := hrel
          clear HBB HBr
          have HBB := Bx.mk (bstep HB.out HBx.out)
          by_cases hp : p < m
          · have hpI : (p : Int) < (m : Int) := by omega
            have d1 := cell_of_row _ g1 1 _ _ (0, 0) ((HBx.out.block g1 (Array.getElem?_eq_some_iff.1 HV.out).1).trans HV.out)
            obtain ⟨_, _, e1, _, x0⟩ := (HIV.out.below HBx.out).iv m hlt 0
            cases e1
            obtain ⟨_, _, e1, _, y0⟩ := (HIV.out.below HBx.out).iv p (by omega) 0
            cases e1
            rw [HX.out] at x0
            obtain ⟨y, HY⟩ : ∃ y, Bx (o.getD p 0 = y) := ⟨_, ⟨rfl⟩⟩
            rw [HY.out] at y0
            have hplI : (p : Int) < (len : Int) := by omega
            by_cases hxy : y = x
            · have HF : Bx (chkN ⟨j, t, DH, DS, k, r, o⟩ = 2) := ⟨HBAD.out (by rw [HOKN.out, contains_take hp (by omega) (HY.out.trans hxy)]; rfl)⟩
              have hq : (y == x) = true := by simpa using hxy
              clear hxy
              go_wp2_with fail
              go_quiet (fail)
              go_wp2_with fail
              go_ret
              exact ⟨by rw [HF.out]; rfl, below_drewN HBB.out _⟩
            · have hq : (y == x) = false := by simpa using hxy
              have HNO2 : Bx (∀ i, i < p + 1 → i < o.length → o.getD i 0 ≠ x) := ⟨fun i hi hl => by
                by_cases e : i = p
                · rw [e, HY.out]; exact hxy
                · exact HNO.out i (by omega) hl⟩
              clear hxy HNO
              go_wp2_with fail
              go_quiet (fail)
              go_wp2_with fail
              go_roundw
              case rel => exact ⟨p + 1, by omega, by go_num, HNO2, ⟨below_drewN HBx.out _⟩⟩
              case measure => simp [intOf]; omega
          · have hpI : ¬ (p : Int) < (m : Int) := by omega
            have HOK2 : Bx ((List.range (m + 1)).all (okO o) = true) := ⟨all_snoc HOK.out (by rw [HOKN.out, not_contains (fun i hi hl => HNO.out i (by omega) hl)]; rfl)⟩
            clear HOK HNO
            go_wp2_with fail
            go_roundw
            case rel => exact ⟨m + 1, by omega, by go_num, HOK2, HBx⟩
            case measure => simp [intOf]; omega
      · have hkI : ¬ (m : Int) < (len : Int) := by omega
        have HF : Bx (chkN ⟨j, t, DH, DS, k, r, o⟩ = 0) := ⟨HPOST.out (by
          have hml2 : m = o.length := by rw [HLEN.out]; omega
          unfold ordO; rw [← hml2]; exact HOK.out)⟩
        go_wp2_with fail
        go_ret
        exact ⟨by rw [HF.out]; rfl, HBB.out⟩
  · have hk1 : (k != 1) = true := by simpa using hk
    by_cases hl : 0 < len
    · have HF : Bx (chkN ⟨j, t, DH, DS, k, r, o⟩ = 2) := ⟨by
        unfold chkN; rw [if_neg]
        intro hc
        rcases ((canN_iff _).1 hc).2.1 with h1 | h1
        · exact hk h1
        · simp only at h1
          have h2 := HLEN.out
          rw [h1, List.length_nil] at h2
          omega⟩
      have hlI : (0 : Int) < (len : Int) := by omega
      clear hk
      go_wp2_with fail
      go_ret
      exact ⟨by rw [HF.out]; rfl, HB.out⟩
    · have HPOST : Bx (ordO o = true → chkN ⟨j, t, DH, DS, k, r, o⟩ = 0) := ⟨HOK.out (.inr (by omega))⟩
      have hlI : ¬ (0 : Int) < (len : Int) := by omega
      clear HOK Q1 Q2 Q3 Q4 hk
      go_upto_region 8 with fail
      clear hk1 d0
      go_wp2_with fail
      go_loopw [4] (fun i wr => ∃ m : Nat, m ≤ len ∧ i = .int .i64 m ∧ Bx ((List.range m).all (okO o) = true) ∧ Bx (Below wb.heap.size wb wr)) (fun i _ => len - (intOf i).toNat)
      case atStart => exact ⟨0, Nat.zero_le _, rfl, ⟨rfl⟩, ⟨Below.refl _ _⟩⟩
      case round =>
        obtain ⟨m, hml, rfl, HOK, HBr⟩ := hrel
        have d1 := cell_of_row _ g1 1 _ _ (0, 0) ((HBr.out.block g1 (Array.getElem?_eq_some_iff.1 HV.out).1).trans HV.out)
        have HBB := Bx.mk (bstep HB.out HBr.out)
        by_cases hlt : m < len
        · exfalso; omega
        · have hkI : ¬ (m : Int) < (len : Int) := by omega
          have HF : Bx (chkN ⟨j, t, DH, DS, k, r, o⟩ = 0) := ⟨HPOST.out (by
            have hml2 : m = o.length := by rw [HLEN.out]; omega
            unfold ordO; rw [← hml2]; exact HOK.out)⟩
          go_wp2_with fail
          go_ret
          exact ⟨by rw [HF.out]; rfl, HBB.out⟩
end Go.Proofs.YtbednfacipphhaaDoor
namespace Go.Proofs.YtbednfacipphhaaDoor
open Go.RowKit
set_option linter.unusedVariables false

/-- what Encode answers -/
def encN (e : En) : List Int := if chkN e = 0 then enL e else []
set_option maxRecDepth 100000 in
theorem encN_ok {e : En} (h : chkN e = 0) : encN e = enL e := by unfold encN; rw [if_pos h]
set_option maxRecDepth 100000 in
theorem encN_no {e : En} (h : chkN e ≠ 0) : encN e = [] := by unfold encN; rw [if_neg h]
set_option maxRecDepth 100000 in
theorem chkN_can {e : En} (h : chkN e = 0) : canN e = true := by
  unfold chkN at h
  cases hc : canN e with
  | true => rfl
  | false => rw [hc] at h; simp at h
set_option maxRecDepth 100000 in
theorem chkN_ways (e : En) : chkN e = 0 ∨ chkN e = 2 := by
  unfold chkN; split
  · exact .inl rfl
  · exact .inr rfl
set_option maxRecDepth 100000 in
theorem refvarE_any (x : Int) (w : World) (h0 : 0 ≤ x) (h1 : x ≤ 18446744073709551615) :
    Calls Tryd.prog 68 #[.int .u64 x] w fun e w' => ∃ v, e = .returned v ∧ w'.ownsRow w.heap.size 5 1 v (varL x).length (bv (varL x)) ∧ Below w.heap.size w w' :=
  refvar_any 9 x w (Nat.le_refl _) h0 h1 (by rw [show (128 : Int) ^ (9 + 1) = 1180591620717411303424 from rfl]; omega)
set_option maxRecDepth 100000 in
theorem bts_oneE (w : World) (x : Int) (hx : 0 ≤ x ∧ x ≤ 255) : Bts (w.alloc (.cells #[.int .u8 x] 5)) (some ⟨w.heap.size, 0, none⟩) 1 1 [x] := by
  have hr := heap_alloc_new w (.cells #[.int .u8 x] 5)
  refine ⟨rfl, Byt.cons hx Byt.nil, Nat.le_refl _, by unfold maxLen; omega, (fun h => by cases h), fun _ => ⟨_, 0, rfl, (Array.getElem?_eq_some_iff.1 hr).1, fun i hi => ?_⟩⟩
  obtain rfl : i = 0 := by omega
  exact cell_of_row _ _ 0 _ _ (0, 0) hr
/-- how Encode ends -/
def EcP (e : En) (w : World) (x : Ending) (w' : World) : Prop := ∃ v, x = .returned (.tuple #[v, .int .i64 (chkN e)]) ∧ w'.ownsRow w.heap.size 5 1 v (encN e).length (bv (encN e)) ∧ Below w.heap.size w w'
set_option maxRecDepth 100000 in
theorem ecp_ok {e : En} {w w' : World} {v : Value} {L : List Int} (hc : chkN e = 0) (he : enL e = L) (h : w'.ownsRow w.heap.size 5 1 v L.length (bv L)) (hb : Below w.heap.size w w') : EcP e w (.returned (.tuple #[v, .int .i64 0])) w' := ⟨v, by rw [hc], by rw [encN_ok hc, he]; exact h, hb⟩
set_option maxRecDepth 100000 in
theorem ecp_no {e : En} {w w' : World} (hc : chkN e = 2) (hb : Below w.heap.size w w') : EcP e w (.returned (.tuple #[.slice none 0 0, .int .i64 2])) w' := ⟨_, by rw [hc], by rw [encN_no (by rw [hc]; decide)]; exact World.ownsRow_nil _ _ _ _, hb⟩
set_option maxHeartbeats 4000000 in
set_option maxRecDepth 100000 in
theorem encode20_any (e : En) (a : Option Addr) (len cap : Nat) (w : World) (h : Ivs w a len cap e.o) (hd : EnD e) :
    Calls Tryd.prog 41 #[.agg (enA e a len cap)] w (EcP e w) := by
  have hb0 : Below w.heap.size w (w.alloc (.cells (enA e a len cap) 35)) := (Below.refl _ _).alloc (Nat.le_refl _) _
  have hr0 := EnB.new (a := a) (n := len) (c := cap) w hd
  obtain ⟨g0, HG⟩ : ∃ g0, Bx (g0 = w.heap.size) := ⟨_, ⟨rfl⟩⟩
  rw [← HG.out] at hr0
  have HB0 := Bx.mk hb0
  have HIV := Bx.mk (h.below hb0)
  have HR := Bx.mk hr0
  have HLEN : Bx (e.o.length = len) := ⟨h.len_eq⟩
  have HD := Bx.mk hd
  have hm := Nat.le_trans h.le_cap h.cap_le
  unfold maxLen at hm
  clear h hb0 hr0 hd
  go_enter Tryd.func41, Tryd.ntmps41
  go_upto_region 1 with fail
  rw [← HG.out]
  generalize w.alloc (.cells (enA e a len cap) 35) = wa at HB0 HIV HR ⊢
  go_wp2_with (refine wpList_load_en rfl (.tmp 1) rfl rfl HR.out ?_)
  refine (check20_any e a len cap _ HIV.out HD.out).mono ?_
  rintro x w1 ⟨rfl, hb1⟩
  have HB1 := Bx.mk hb1
  have HR7 := Bx.mk (HR.out.below hb1)
  clear hb1
  rcases chkN_ways e with hok | hok
  · rw [hok]
    have HCK := Bx.mk hok
    have HCN := Bx.mk (chkN_can hok)
    clear hok
    obtain ⟨TX, HTX⟩ : ∃ TX, Bx (enL e = TX) := ⟨_, ⟨rfl⟩⟩
    have HBYT : Bx (∀ i, i < len → ∃ x : Nat, e.o.getD i 0 = (x : Int) ∧ x ≤ 63) := ⟨fun i hi => by
      have := ordO_iff.1 ((canN_iff _).1 HCN.out).2.2 i (by rw [HLEN.out]; exact hi)
      exact ⟨(e.o.getD i 0).toNat, by omega, by omega⟩⟩
    have hl64 : len ≤ 64 := by have := ordO_len ((canN_iff _).1 HCN.out).2.2; rw [HLEN.out] at this; exact this
    have hn := (numO_iff _).1 ((canN_iff _).1 HCN.out).1
    obtain ⟨j, t, DH, DS, k, r, o⟩ := e
    simp only at hn HIV HLEN HBYT
    obtain ⟨j, rfl⟩ : ∃ n : Nat, j = n := ⟨j.toNat, by omega⟩
    obtain ⟨t, rfl⟩ : ∃ n : Nat, t = n := ⟨t.toNat, by omega⟩
    obtain ⟨k, rfl⟩ : ∃ n : Nat, k = n := ⟨k.toNat, by omega⟩
    obtain ⟨r, rfl⟩ : ∃ n : Nat, r = n := ⟨r.toNat, by omega⟩
    have hj : j ≤ 63 := by omega
    have ht : t ≤ 1099511627776 := by omega
    have hk : 1 ≤ k ∧ k ≤ 4 := by omega
    have hr : r ≤ 1073741824 := by omega
    have HDH : Bx (Dig DH) := ⟨HD.out.1⟩
    have HDS : Bx (Dig DS) := ⟨HD.out.2⟩
    have HE : Bx (varL (j : Int) ++ (varL (t : Int) ++ (DH ++ (DS ++ ([(k : Int)] ++ (varL (r : Int) ++ (varL (len : Int) ++ o)))))) = TX) := ⟨by rw [← HTX.out]; unfold enL; simp only; rw [HLEN.out, ← varL_one (len : Int) (by omega)]⟩
    clear hn HCN HD
    have c0 := HR7.out.c0
    simp only at c0
    go_wp2_with fail
    refine (var_any (j : Int) _ (by omega) (by omega)).mono ?_
    rintro e w6 ⟨v6, rfl, ho6, hb6⟩
    have hvl := (varL_length (j : Int)).2
    have HO : Bx (w6.ownsRow wa.heap.size 5 1 v6 (varL (j : Int)).length (bv (varL (j : Int)))) := ⟨owns_base ho6 HB1.out.size⟩
    have HB := Bx.mk (bstep HB1.out hb6)
    have HRb := Bx.mk (HR7.out.below hb6)
    clear c0 ho6 hb6 HB1 HR7
    generalize varL (j : Int) = P at HO hvl HE
    have hP : P.length ≤ 10 := hvl
    clear hvl
    have c1 := HRb.out.c1
    simp only at c1
    -- a short number is put behind
    go_wp2_with fail
    refine (var_any (t : Int) _ (by omega) (by omega)).mono ?_
    rintro e w6 ⟨v6, rfl, ho6, hb6⟩
    obtain ⟨a6, c6, rfl, hv6⟩ := Bts.of_owns ho6 (varL_byt _ (by omega) (by omega))
    have HV6 := Bx.mk hv6
    have HO6 := Bx.mk (owns_below HO.out hb6)
    have HB6 := Bx.mk (bstep HB.out hb6)
    have hvl := (varL_length (t : Int)).2
    clear ho6 hv6 hb6
    generalize varL (t : Int) = Z at HV6 hvl HE
    go_wp2_with (at_builtin; refine wpList_append_bts rfl _ _ rfl wa.heap.size _ _ _ rfl HO6.out a6 _ c6 Z rfl HV6.out (by omega) HB6.out.size ?_)
    intro v7 w7 ho7 hb7 hg7
    have HO7 : Bx (w7.ownsRow wa.heap.size 5 1 v7 (P ++ Z).length (bv (P ++ Z))) := ⟨by rw [List.length_append]; exact ho7⟩
    have HB7 : Bx (Below wa.heap.size wa w7) := ⟨HB6.out.trans hb7⟩
    have HE7 : Bx (P ++ Z ++ (DH ++ (DS ++ ([(k : Int)] ++ (varL (r : Int) ++ (varL (len : Int) ++ o))))) = TX) := ⟨by rw [List.append_assoc]; exact HE.out⟩
    have hP7 : (P ++ Z).length ≤ 20 := by rw [List.length_append]; omega
    clear ho7 hb7 hg7 HO6 HV6 HB6 HE hP HO HB
    generalize P ++ Z = P7 at HO7 HE7 hP7
    have HR7 := Bx.mk (HR.out.keep (HB7.out.block g0 HR.out.lt))
    clear hvl
    clear c1 HRb
    obtain ⟨P, hPP⟩ : ∃ x, x = P7 := ⟨_, rfl⟩
    subst hPP
    have HO := HO7
    have HB := HB7
    have HE := HE7
    have hP := hP7
    clear HO7 HB7 HE7 hP7
    -- a sum is put behind
    have hsl := dg_at g0 2
    have HV6 := Bx.mk (HR7.out.bH)
    have HO6 := HO
    have HB6 := HB
    have hDl := HDH.out.1
    go_wp2_with (at_builtin; refine wpList_append_bts rfl _ _ rfl wa.heap.size _ _ _ rfl HO6.out (some ⟨g0, 2, none⟩) _ 32 DH rfl HV6.out (by omega) HB6.out.size ?_)
    intro v7 w7 ho7 hb7 hg7
    have HO7 : Bx (w7.ownsRow wa.heap.size 5 1 v7 (P ++ DH).length (bv (P ++ DH))) := ⟨by rw [List.length_append, hDl]; exact ho7⟩
    have HB7 : Bx (Below wa.heap.size wa w7) := ⟨HB6.out.trans hb7⟩
    have HE7 : Bx (P ++ DH ++ (DS ++ ([(k : Int)] ++ (varL (r : Int) ++ (varL (len : Int) ++ o)))) = TX) := ⟨by rw [List.append_assoc]; exact HE.out⟩
    have hP7 : (P ++ DH).length ≤ 52 := by rw [List.length_append, hDl]; omega
    clear ho7 hb7 hg7 HO6 HV6 HB6 HE hP HO HB
    generalize P ++ DH = P7 at HO7 HE7 hP7
    have HR7 := Bx.mk (HR.out.keep (HB7.out.block g0 HR.out.lt))
    clear hsl hDl
    clear HR7
    have HR7 := Bx.mk (HR.out.keep (HB7.out.block g0 HR.out.lt))
    obtain ⟨P, hPP⟩ : ∃ x, x = P7 := ⟨_, rfl⟩
    subst hPP
    have HO := HO7
    have HB := HB7
    have HE := HE7
    have hP := hP7
    clear HO7 HB7 HE7 hP7
    -- a sum is put behind
    have hsl := dg_at g0 34
    have HV6 := Bx.mk (HR7.out.bS)
    have HO6 := HO
    have HB6 := HB
    have hDl := HDS.out.1
    go_wp2_with (at_builtin; refine wpList_append_bts rfl _ _ rfl wa.heap.size _ _ _ rfl HO6.out (some ⟨g0, 34, none⟩) _ 32 DS rfl HV6.out (by omega) HB6.out.size ?_)
    intro v7 w7 ho7 hb7 hg7
    have HO7 : Bx (w7.ownsRow wa.heap.size 5 1 v7 (P ++ DS).length (bv (P ++ DS))) := ⟨by rw [List.length_append, hDl]; exact ho7⟩
    have HB7 : Bx (Below wa.heap.size wa w7) := ⟨HB6.out.trans hb7⟩
    have HE7 : Bx (P ++ DS ++ ([(k : Int)] ++ (varL (r : Int) ++ (varL (len : Int) ++ o))) = TX) := ⟨by rw [List.append_assoc]; exact HE.out⟩
    have hP7 : (P ++ DS).length ≤ 84 := by rw [List.length_append, hDl]; omega
    clear ho7 hb7 hg7 HO6 HV6 HB6 HE hP HO HB
    generalize P ++ DS = P7 at HO7 HE7 hP7
    have HR7 := Bx.mk (HR.out.keep (HB7.out.block g0 HR.out.lt))
    clear hsl hDl
    clear HR7
    have HR7 := Bx.mk (HR.out.keep (HB7.out.block g0 HR.out.lt))
    obtain ⟨P, hPP⟩ : ∃ x, x = P7 := ⟨_, rfl⟩
    subst hPP
    have HO := HO7
    have HB := HB7
    have HE := HE7
    have hP := hP7
    clear HO7 HB7 HE7 hP7
    have c2 := HR7.out.c66
    simp only at c2
    go_upto_region 8 with fail
    -- a byte is put behind
    have hbA : Below w7.heap.size w7 (w7.alloc (.cells #[.int .u8 (k : Int)] 5)) := (Below.refl _ _).alloc (Nat.le_refl _) _
    have HV6 := Bx.mk (bts_oneE w7 (k : Int) ⟨by omega, by omega⟩)
    have HO6 := Bx.mk (owns_below HO.out hbA)
    have HB6 := Bx.mk (bstep HB.out hbA)
    clear hbA
    go_wp2_with (at_builtin; refine wpList_append_bts rfl _ _ rfl wa.heap.size _ _ _ rfl HO6.out (some ⟨w7.heap.size, 0, none⟩) _ 1 [(k : Int)] rfl HV6.out (by omega) HB6.out.size ?_)
    intro v7 w7 ho7 hb7 hg7
    have HO7 : Bx (w7.ownsRow wa.heap.size 5 1 v7 (P ++ [(k : Int)]).length (bv (P ++ [(k : Int)]))) := ⟨by rw [List.length_append, List.length_singleton]; exact ho7⟩
    have HB7 : Bx (Below wa.heap.size wa w7) := ⟨HB6.out.trans hb7⟩
    have HE7 : Bx (P ++ [(k : Int)] ++ (varL (r : Int) ++ (varL (len : Int) ++ o)) = TX) := ⟨by rw [List.append_assoc]; exact HE.out⟩
    have hP7 : (P ++ [(k : Int)]).length ≤ 85 := by rw [List.length_append, List.length_singleton]; omega
    clear ho7 hb7 hg7 HO6 HV6 HB6 HE hP HO HB
    generalize P ++ [(k : Int)] = P7 at HO7 HE7 hP7
    have HR7 := Bx.mk (HR.out.keep (HB7.out.block g0 HR.out.lt))
    clear HR7 c2
    have HR7 := Bx.mk (HR.out.keep (HB7.out.block g0 HR.out.lt))
    obtain ⟨P, hPP⟩ : ∃ x, x = P7 := ⟨_, rfl⟩
    subst hPP
    have HO := HO7
    have HB := HB7
    have HE := HE7
    have hP := hP7
    clear HO7 HB7 HE7 hP7
    have c2 := HR7.out.c68
    simp only at c2
    -- a short number is put behind
    go_wp2_with fail
    refine (var_any (r : Int) _ (by omega) (by omega)).mono ?_
    rintro e w6 ⟨v6, rfl, ho6, hb6⟩
    obtain ⟨a6, c6, rfl, hv6⟩ := Bts.of_owns ho6 (varL_byt _ (by omega) (by omega))
    have HV6 := Bx.mk hv6
    have HO6 := Bx.mk (owns_below HO.out hb6)
    have HB6 := Bx.mk (bstep HB.out hb6)
    have hvl := (varL_length (r : Int)).2
    clear ho6 hv6 hb6
    generalize varL (r : Int) = Z at HV6 hvl HE
    go_wp2_with (at_builtin; refine wpList_append_bts rfl _ _ rfl wa.heap.size _ _ _ rfl HO6.out a6 _ c6 Z rfl HV6.out (by omega) HB6.out.size ?_)
    intro v7 w7 ho7 hb7 hg7
    have HO7 : Bx (w7.ownsRow wa.heap.size 5 1 v7 (P ++ Z).length (bv (P ++ Z))) := ⟨by rw [List.length_append]; exact ho7⟩
    have HB7 : Bx (Below wa.heap.size wa w7) := ⟨HB6.out.trans hb7⟩
    have HE7 : Bx (P ++ Z ++ (varL (len : Int) ++ o) = TX) := ⟨by rw [List.append_assoc]; exact HE.out⟩
    have hP7 : (P ++ Z).length ≤ 95 := by rw [List.length_append]; omega
    clear ho7 hb7 hg7 HO6 HV6 HB6 HE hP HO HB
    generalize P ++ Z = P7 at HO7 HE7 hP7
    have HR7 := Bx.mk (HR.out.keep (HB7.out.block g0 HR.out.lt))
    clear hvl
    clear HR7 c2
    have HR7 := Bx.mk (HR.out.keep (HB7.out.block g0 HR.out.lt))
    obtain ⟨P, hPP⟩ : ∃ x, x = P7 := ⟨_, rfl⟩
    subst hPP
    have HO := HO7
    have HB := HB7
    have HE := HE7
    have hP := hP7
    clear HO7 HB7 HE7 hP7
    have c2 := HR7.out.c67
    -- a short number is put behind
    go_wp2_with fail
    refine (var_any (len : Int) _ (by omega) (by omega)).mono ?_
    rintro e w6 ⟨v6, rfl, ho6, hb6⟩
    obtain ⟨a6, c6, rfl, hv6⟩ := Bts.of_owns ho6 (varL_byt _ (by omega) (by omega))
    have HV6 := Bx.mk hv6
    have HO6 := Bx.mk (owns_below HO.out hb6)
    have HB6 := Bx.mk (bstep HB.out hb6)
    have hvl := (varL_length (len : Int)).2
    clear ho6 hv6 hb6
    generalize varL (len : Int) = Z at HV6 hvl HE
    go_wp2_with (at_builtin; refine wpList_append_bts rfl _ _ rfl wa.heap.size _ _ _ rfl HO6.out a6 _ c6 Z rfl HV6.out (by omega) HB6.out.size ?_)
    intro v7 w7 ho7 hb7 hg7
    have HO7 : Bx (w7.ownsRow wa.heap.size 5 1 v7 (P ++ Z).length (bv (P ++ Z))) := ⟨by rw [List.length_append]; exact ho7⟩
    have HB7 : Bx (Below wa.heap.size wa w7) := ⟨HB6.out.trans hb7⟩
    have HE7 : Bx (P ++ Z ++ o = TX) := ⟨by rw [List.append_assoc]; exact HE.out⟩
    have hP7 : (P ++ Z).length ≤ 105 := by rw [List.length_append]; omega
    clear ho7 hb7 hg7 HO6 HV6 HB6 HE hP HO HB
    generalize P ++ Z = P7 at HO7 HE7 hP7
    have HR7 := Bx.mk (HR.out.keep (HB7.out.block g0 HR.out.lt))
    clear hvl
    clear c2 HR7
    have c2 := (HR.out.keep (HB7.out.block g0 HR.out.lt)).c67
    obtain ⟨P, hPP⟩ : ∃ x, x = P7 := ⟨_, rfl⟩
    subst hPP
    have HO := HO7
    have HB := HB7
    have HE := HE7
    have hP := hP7
    clear HO7 HB7 HE7 hP7
    go_wp2_with fail
    go_loopw [5, 57] (fun v i wr => ∃ m : Nat, m ≤ len ∧ i = .int .i64 m ∧ Bx (wr.ownsRow wa.heap.size 5 1 v (P ++ o.take m).length (bv (P ++ o.take m))) ∧ Bx (Below wa.heap.size wa wr)) (fun _ i _ => len - (intOf i).toNat)
    case atStart => exact ⟨0, Nat.zero_le _, rfl, ⟨by rw [List.take_zero, List.append_nil]; exact HO.out⟩, HB⟩
    case round =>
      clear HO HB c2
      obtain ⟨m, hml, rfl, HO, HB⟩ := hrel
      obtain ⟨vO, hvO⟩ : ∃ x, x = u5 := ⟨_, rfl⟩
      subst hvO
      by_cases hlt : m < len
      · have hkI : (m : Int) < (len : Int) := by omega
        obtain ⟨b, off, rfl, _, x0⟩ := (HIV.out.below HB.out).iv m hlt 0
        obtain ⟨x, hx1, hx2⟩ := HBYT.out m hlt
        have HTK : Bx (P ++ o.take (m + 1) = P ++ o.take m ++ [(x : Int)]) := ⟨by rw [take_succ_getD o m (by rw [HLEN.out]; exact hlt), hx1, List.append_assoc]⟩
        rw [hx1] at x0
        clear hx1
        have hPm : (P ++ o.take m).length ≤ 200 := by rw [List.length_append, List.length_take]; omega
        generalize P ++ o.take m = Q at HO HTK hPm
        have hbA : Below wr.heap.size wr (wr.alloc (.cells #[.int .u8 (x : Int)] 5)) := (Below.refl _ _).alloc (Nat.le_refl _) _
        have HV6 := Bx.mk (bts_oneE wr (x : Int) ⟨by omega, by omega⟩)
        have HO6 := Bx.mk (owns_below HO.out hbA)
        have HB6 := Bx.mk (bstep HB.out hbA)
        clear hbA HO HB
        go_wp2_with (at_builtin; refine wpList_append_bts rfl _ _ rfl wa.heap.size _ _ _ rfl HO6.out (some ⟨wr.heap.size, 0, none⟩) _ 1 [(x : Int)] rfl HV6.out (by omega) HB6.out.size ?_)
        intro v7 w7 ho7 hb7 hg7
        have HO7 : Bx (w7.ownsRow wa.heap.size 5 1 v7 (P ++ o.take (m + 1)).length (bv (P ++ o.take (m + 1)))) := ⟨by rw [HTK.out, List.length_append]; exact ho7⟩
        have HB7 : Bx (Below wa.heap.size wa w7) := ⟨HB6.out.trans hb7⟩
        clear ho7 hb7 hg7 HO6 HV6 HB6
        go_wp2_with fail
        go_roundw
        case rel => exact ⟨m + 1, by omega, by go_num, HO7, HB7⟩
        case measure => simp [intOf]; omega
      · have hkI : ¬ (m : Int) < (len : Int) := by omega
        obtain rfl : m = len := by omega
        have HFO : Bx (wr.ownsRow w.heap.size 5 1 vO (TX).length (bv (TX))) := ⟨by
          have h1 := owns_base HO.out HB0.out.size
          rw [List.take_of_length_le (by rw [HLEN.out]; omega), HE.out] at h1; exact h1⟩
        have HFB := Bx.mk (bstep HB0.out HB.out)
        clear HO HB
        go_wp2_with fail
        go_ret2
        exact ecp_ok HCK.out HTX.out HFO.out HFB.out
  · rw [hok]
    have HCK := Bx.mk hok
    clear hok
    have HB2 := Bx.mk (bstep HB0.out HB1.out)
    go_wp2_with fail
    go_ret2
    exact ecp_no HCK.out HB2.out
set_option maxHeartbeats 4000000 in
set_option maxRecDepth 100000 in
theorem refencode20_any (e : En) (a : Option Addr) (len cap : Nat) (w : World) (h : Ivs w a len cap e.o) (hd : EnD e) :
    Calls Tryd.prog 39 #[.agg (enA e a len cap)] w (EcP e w) := by
  have hb0 : Below w.heap.size w (w.alloc (.cells (enA e a len cap) 35)) := (Below.refl _ _).alloc (Nat.le_refl _) _
  have hr0 := EnB.new (a := a) (n := len) (c := cap) w hd
  obtain ⟨g0, HG⟩ : ∃ g0, Bx (g0 = w.heap.size) := ⟨_, ⟨rfl⟩⟩
  rw [← HG.out] at hr0
  have HB0 := Bx.mk hb0
  have HIV := Bx.mk (h.below hb0)
  have HR := Bx.mk hr0
  have HLEN : Bx (e.o.length = len) := ⟨h.len_eq⟩
  have HD := Bx.mk hd
  have hm := Nat.le_trans h.le_cap h.cap_le
  unfold maxLen at hm
  clear h hb0 hr0 hd
  go_enter Tryd.func39, Tryd.ntmps39
  go_upto_region 1 with fail
  rw [← HG.out]
  generalize w.alloc (.cells (enA e a len cap) 35) = wa at HB0 HIV HR ⊢
  go_wp2_with (refine wpList_load_en rfl (.tmp 1) rfl rfl HR.out ?_)
  refine (refcheck20_any e a len cap _ HIV.out HD.out).mono ?_
  rintro x w1 ⟨rfl, hb1⟩
  have HB1 := Bx.mk hb1
  have HR7 := Bx.mk (HR.out.below hb1)
  clear hb1
  rcases chkN_ways e with hok | hok
  · rw [hok]
    have HCK := Bx.mk hok
    have HCN := Bx.mk (chkN_can hok)
    clear hok
    obtain ⟨TX, HTX⟩ : ∃ TX, Bx (enL e = TX) := ⟨_, ⟨rfl⟩⟩
    have HBYT : Bx (∀ i, i < len → ∃ x : Nat, e.o.getD i 0 = (x : Int) ∧ x ≤ 63) := ⟨fun i hi => by
      have := ordO_iff.1 ((canN_iff _).1 HCN.out).2.2 i (by rw [HLEN.out]; exact hi)
      exact ⟨(e.o.getD i 0).toNat, by omega, by omega⟩⟩
    have hl64 : len ≤ 64 := by have := ordO_len ((canN_iff _).1 HCN.out).2.2; rw [HLEN.out] at this; exact this
    have hn := (numO_iff _).1 ((canN_iff _).1 HCN.out).1
    obtain ⟨j, t, DH, DS, k, r, o⟩ := e
    simp only at hn HIV HLEN HBYT
    obtain ⟨j, rfl⟩ : ∃ n : Nat, j = n := ⟨j.toNat, by omega⟩
    obtain ⟨t, rfl⟩ : ∃ n : Nat, t = n := ⟨t.toNat, by omega⟩
    obtain ⟨k, rfl⟩ : ∃ n : Nat, k = n := ⟨k.toNat, by omega⟩
    obtain ⟨r, rfl⟩ : ∃ n : Nat, r = n := ⟨r.toNat, by omega⟩
    have hj : j ≤ 63 := by omega
    have ht : t ≤ 1099511627776 := by omega
    have hk : 1 ≤ k ∧ k ≤ 4 := by omega
    have hr : r ≤ 1073741824 := by omega
    have HDH : Bx (Dig DH) := ⟨HD.out.1⟩
    have HDS : Bx (Dig DS) := ⟨HD.out.2⟩
    have HE : Bx (varL (j : Int) ++ (varL (t : Int) ++ (DH ++ (DS ++ ([(k : Int)] ++ (varL (r : Int) ++ ([(len : Int)] ++ o)))))) = TX) := ⟨by rw [← HTX.out]; unfold enL; simp only; rw [HLEN.out]⟩
    clear hn HCN HD
    have c0 := HR7.out.c0
    simp only at c0
    go_wp2_with fail
    refine (refvarE_any (j : Int) _ (by omega) (by omega)).mono ?_
    rintro e w6 ⟨v6, rfl, ho6, hb6⟩
    have hvl := (varL_length (j : Int)).2
    have HO : Bx (w6.ownsRow wa.heap.size 5 1 v6 (varL (j : Int)).length (bv (varL (j : Int)))) := ⟨owns_base ho6 HB1.out.size⟩
    have HB := Bx.mk (bstep HB1.out hb6)
    have HRb := Bx.mk (HR7.out.below hb6)
    clear c0 ho6 hb6 HB1 HR7
    generalize varL (j : Int) = P at HO hvl HE
    have hP : P.length ≤ 10 := hvl
    clear hvl
    have c1 := HRb.out.c1
    simp only at c1
    -- a short number is put behind
    go_wp2_with fail
    refine (refvarE_any (t : Int) _ (by omega) (by omega)).mono ?_
    rintro e w6 ⟨v6, rfl, ho6, hb6⟩
    obtain ⟨a6, c6, rfl, hv6⟩ := Bts.of_owns ho6 (varL_byt _ (by omega) (by omega))
    have HV6 := Bx.mk hv6
    have HO6 := Bx.mk (owns_below HO.out hb6)
    have HB6 := Bx.mk (bstep HB.out hb6)
    have hvl := (varL_length (t : Int)).2
    clear ho6 hv6 hb6
    generalize varL (t : Int) = Z at HV6 hvl HE
    go_wp2_with (at_builtin; refine wpList_append_bts rfl _ _ rfl wa.heap.size _ _ _ rfl HO6.out a6 _ c6 Z rfl HV6.out (by omega) HB6.out.size ?_)
    intro v7 w7 ho7 hb7 hg7
    have HO7 : Bx (w7.ownsRow wa.heap.size 5 1 v7 (P ++ Z).length (bv (P ++ Z))) := ⟨by rw [List.length_append]; exact ho7⟩
    have HB7 : Bx (Below wa.heap.size wa w7) := ⟨HB6.out.trans hb7⟩
    have HE7 : Bx (P ++ Z ++ (DH ++ (DS ++ ([(k : Int)] ++ (varL (r : Int) ++ ([(len : Int)] ++ o))))) = TX) := ⟨by rw [List.append_assoc]; exact HE.out⟩
    have hP7 : (P ++ Z).length ≤ 20 := by rw [List.length_append]; omega
    clear ho7 hb7 hg7 HO6 HV6 HB6 HE hP HO HB
    generalize P ++ Z = P7 at HO7 HE7 hP7
    have HR7 := Bx.mk (HR.out.keep (HB7.out.block g0 HR.out.lt))
    clear hvl
    clear c1 HRb
    obtain ⟨P, hPP⟩ : ∃ x, x = P7 := ⟨_, rfl⟩
    subst hPP
    have HO := HO7
    have HB := HB7
    have HE := HE7
    have hP := hP7
    clear HO7 HB7 HE7 hP7
    -- a sum is put behind
    have hsl := dg_at g0 2
    have HV6 := Bx.mk (HR7.out.bH)
    have HO6 := HO
    have HB6 := HB
    have hDl := HDH.out.1
    go_wp2_with (at_builtin; refine wpList_append_bts rfl _ _ rfl wa.heap.size _ _ _ rfl HO6.out (some ⟨g0, 2, none⟩) _ 32 DH rfl HV6.out (by omega) HB6.out.size ?_)
    intro v7 w7 ho7 hb7 hg7
    have HO7 : Bx (w7.ownsRow wa.heap.size 5 1 v7 (P ++ DH).length (bv (P ++ DH))) := ⟨by rw [List.length_append, hDl]; exact ho7⟩
    have HB7 : Bx (Below wa.heap.size wa w7) := ⟨HB6.out.trans hb7⟩
    have HE7 : Bx (P ++ DH ++ (DS ++ ([(k : Int)] ++ (varL (r : Int) ++ ([(len : Int)] ++ o)))) = TX) := ⟨by rw [List.append_assoc]; exact HE.out⟩
    have hP7 : (P ++ DH).length ≤ 52 := by rw [List.length_append, hDl]; omega
    clear ho7 hb7 hg7 HO6 HV6 HB6 HE hP HO HB
    generalize P ++ DH = P7 at HO7 HE7 hP7
    have HR7 := Bx.mk (HR.out.keep (HB7.out.block g0 HR.out.lt))
    clear hsl hDl
    clear HR7
    have HR7 := Bx.mk (HR.out.keep (HB7.out.block g0 HR.out.lt))
    obtain ⟨P, hPP⟩ : ∃ x, x = P7 := ⟨_, rfl⟩
    subst hPP
    have HO := HO7
    have HB := HB7
    have HE := HE7
    have hP := hP7
    clear HO7 HB7 HE7 hP7
    -- a sum is put behind
    have hsl := dg_at g0 34
    have HV6 := Bx.mk (HR7.out.bS)
    have HO6 := HO
    have HB6 := HB
    have hDl := HDS.out.1
    go_wp2_with (at_builtin; refine wpList_append_bts rfl _ _ rfl wa.heap.size _ _ _ rfl HO6.out (some ⟨g0, 34, none⟩) _ 32 DS rfl HV6.out (by omega) HB6.out.size ?_)
    intro v7 w7 ho7 hb7 hg7
    have HO7 : Bx (w7.ownsRow wa.heap.size 5 1 v7 (P ++ DS).length (bv (P ++ DS))) := ⟨by rw [List.length_append, hDl]; exact ho7⟩
    have HB7 : Bx (Below wa.heap.size wa w7) := ⟨HB6.out.trans hb7⟩
    have HE7 : Bx (P ++ DS ++ ([(k : Int)] ++ (varL (r : Int) ++ ([(len : Int)] ++ o))) = TX) := ⟨by rw [List.append_assoc]; exact HE.out⟩
    have hP7 : (P ++ DS).length ≤ 84 := by rw [List.length_append, hDl]; omega
    clear ho7 hb7 hg7 HO6 HV6 HB6 HE hP HO HB
    generalize P ++ DS = P7 at HO7 HE7 hP7
    have HR7 := Bx.mk (HR.out.keep (HB7.out.block g0 HR.out.lt))
    clear hsl hDl
    clear HR7
    have HR7 := Bx.mk (HR.out.keep (HB7.out.block g0 HR.out.lt))
    obtain ⟨P, hPP⟩ : ∃ x, x = P7 := ⟨_, rfl⟩
    subst hPP
    have HO := HO7
    have HB := HB7
    have HE := HE7
    have hP := hP7
    clear HO7 HB7 HE7 hP7
    have c2 := HR7.out.c66
    simp only at c2
    go_upto_region 8 with fail
    -- a byte is put behind
    have hbA : Below w7.heap.size w7 (w7.alloc (.cells #[.int .u8 (k : Int)] 5)) := (Below.refl _ _).alloc (Nat.le_refl _) _
    have HV6 := Bx.mk (bts_oneE w7 (k : Int) ⟨by omega, by omega⟩)
    have HO6 := Bx.mk (owns_below HO.out hbA)
    have HB6 := Bx.mk (bstep HB.out hbA)
    clear hbA
    go_wp2_with (at_builtin; refine wpList_append_bts rfl _ _ rfl wa.heap.size _ _ _ rfl HO6.out (some ⟨w7.heap.size, 0, none⟩) _ 1 [(k : Int)] rfl HV6.out (by omega) HB6.out.size ?_)
    intro v7 w7 ho7 hb7 hg7
    have HO7 : Bx (w7.ownsRow wa.heap.size 5 1 v7 (P ++ [(k : Int)]).length (bv (P ++ [(k : Int)]))) := ⟨by rw [List.length_append, List.length_singleton]; exact ho7⟩
    have HB7 : Bx (Below wa.heap.size wa w7) := ⟨HB6.out.trans hb7⟩
    have HE7 : Bx (P ++ [(k : Int)] ++ (varL (r : Int) ++ ([(len : Int)] ++ o)) = TX) := ⟨by rw [List.append_assoc]; exact HE.out⟩
    have hP7 : (P ++ [(k : Int)]).length ≤ 85 := by rw [List.length_append, List.length_singleton]; omega
    clear ho7 hb7 hg7 HO6 HV6 HB6 HE hP HO HB
    generalize P ++ [(k : Int)] = P7 at HO7 HE7 hP7
    have HR7 := Bx.mk (HR.out.keep (HB7.out.block g0 HR.out.lt))
    clear HR7 c2
    have HR7 := Bx.mk (HR.out.keep (HB7.out.block g0 HR.out.lt))
    obtain ⟨P, hPP⟩ : ∃ x, x = P7 := ⟨_, rfl⟩
    subst hPP
    have HO := HO7
    have HB := HB7
    have HE := HE7
    have hP := hP7
    clear HO7 HB7 HE7 hP7
    have c2 := HR7.out.c68
    simp only at c2
    -- a short number is put behind
    go_wp2_with fail
    refine (refvarE_any (r : Int) _ (by omega) (by omega)).mono ?_
    rintro e w6 ⟨v6, rfl, ho6, hb6⟩
    obtain ⟨a6, c6, rfl, hv6⟩ := Bts.of_owns ho6 (varL_byt _ (by omega) (by omega))
    have HV6 := Bx.mk hv6
    have HO6 := Bx.mk (owns_below HO.out hb6)
    have HB6 := Bx.mk (bstep HB.out hb6)
    have hvl := (varL_length (r : Int)).2
    clear ho6 hv6 hb6
    generalize varL (r : Int) = Z at HV6 hvl HE
    go_wp2_with (at_builtin; refine wpList_append_bts rfl _ _ rfl wa.heap.size _ _ _ rfl HO6.out a6 _ c6 Z rfl HV6.out (by omega) HB6.out.size ?_)
    intro v7 w7 ho7 hb7 hg7
    have HO7 : Bx (w7.ownsRow wa.heap.size 5 1 v7 (P ++ Z).length (bv (P ++ Z))) := ⟨by rw [List.length_append]; exact ho7⟩
    have HB7 : Bx (Below wa.heap.size wa w7) := ⟨HB6.out.trans hb7⟩
    have HE7 : Bx (P ++ Z ++ ([(len : Int)] ++ o) = TX) := ⟨by rw [List.append_assoc]; exact HE.out⟩
    have hP7 : (P ++ Z).length ≤ 95 := by rw [List.length_append]; omega
    clear ho7 hb7 hg7 HO6 HV6 HB6 HE hP HO HB
    generalize P ++ Z = P7 at HO7 HE7 hP7
    have HR7 := Bx.mk (HR.out.keep (HB7.out.block g0 HR.out.lt))
    clear hvl
    clear HR7 c2
    have HR7 := Bx.mk (HR.out.keep (HB7.out.block g0 HR.out.lt))
    obtain ⟨P, hPP⟩ : ∃ x, x = P7 := ⟨_, rfl⟩
    subst hPP
    have HO := HO7
    have HB := HB7
    have HE := HE7
    have hP := hP7
    clear HO7 HB7 HE7 hP7
    have c2 := HR7.out.c67
    go_upto_region 10 with fail
    -- a byte is put behind
    have hbA : Below w7.heap.size w7 (w7.alloc (.cells #[.int .u8 (len : Int)] 5)) := (Below.refl _ _).alloc (Nat.le_refl _) _
    have HV6 := Bx.mk (bts_oneE w7 (len : Int) ⟨by omega, by omega⟩)
    have HO6 := Bx.mk (owns_below HO.out hbA)
    have HB6 := Bx.mk (bstep HB.out hbA)
    clear hbA
    go_wp2_with (at_builtin; refine wpList_append_bts rfl _ _ rfl wa.heap.size _ _ _ rfl HO6.out (some ⟨w7.heap.size, 0, none⟩) _ 1 [(len : Int)] rfl HV6.out (by omega) HB6.out.size ?_)
    intro v7 w7 ho7 hb7 hg7
    have HO7 : Bx (w7.ownsRow wa.heap.size 5 1 v7 (P ++ [(len : Int)]).length (bv (P ++ [(len : Int)]))) := ⟨by rw [List.length_append, List.length_singleton]; exact ho7⟩
    have HB7 : Bx (Below wa.heap.size wa w7) := ⟨HB6.out.trans hb7⟩
    have HE7 : Bx (P ++ [(len : Int)] ++ o = TX) := ⟨by rw [List.append_assoc]; exact HE.out⟩
    have hP7 : (P ++ [(len : Int)]).length ≤ 105 := by rw [List.length_append, List.length_singleton]; omega
    clear ho7 hb7 hg7 HO6 HV6 HB6 HE hP HO HB
    generalize P ++ [(len : Int)] = P7 at HO7 HE7 hP7
    have HR7 := Bx.mk (HR.out.keep (HB7.out.block g0 HR.out.lt))
    clear c2 HR7
    obtain ⟨P, hPP⟩ : ∃ x, x = P7 := ⟨_, rfl⟩
    subst hPP
    have HO := HO7
    have HB := HB7
    have HE := HE7
    have hP := hP7
    clear HO7 HB7 HE7 hP7
    go_wp2_with fail
    go_loopw [5, 6] (fun v i wr => ∃ m : Nat, m ≤ len ∧ i = .int .i64 m ∧ Bx (wr.ownsRow wa.heap.size 5 1 v (P ++ o.take m).length (bv (P ++ o.take m))) ∧ Bx (Below wa.heap.size wa wr)) (fun _ i _ => len - (intOf i).toNat)
    case atStart => exact ⟨0, Nat.zero_le _, rfl, ⟨by rw [List.take_zero, List.append_nil]; exact HO.out⟩, HB⟩
    case round =>
      clear HO HB
      obtain ⟨m, hml, rfl, HO, HB⟩ := hrel
      obtain ⟨vO, hvO⟩ : ∃ x, x = u5 := ⟨_, rfl⟩
      subst hvO
      have c2 := (HR.out.keep (HB.out.block g0 HR.out.lt)).c67
      by_cases hlt : m < len
      · have hkI : (m : Int) < (len : Int) := by omega
        obtain ⟨b, off, rfl, _, x0⟩ := (HIV.out.below HB.out).iv m hlt 0
        obtain ⟨x, hx1, hx2⟩ := HBYT.out m hlt
        have HTK : Bx (P ++ o.take (m + 1) = P ++ o.take m ++ [(x : Int)]) := ⟨by rw [take_succ_getD o m (by rw [HLEN.out]; exact hlt), hx1, List.append_assoc]⟩
        rw [hx1] at x0
        clear hx1
        have hPm : (P ++ o.take m).length ≤ 200 := by rw [List.length_append, List.length_take]; omega
        generalize P ++ o.take m = Q at HO HTK hPm
        have hbA : Below wr.heap.size wr (wr.alloc (.cells #[.int .u8 (x : Int)] 5)) := (Below.refl _ _).alloc (Nat.le_refl _) _
        have HV6 := Bx.mk (bts_oneE wr (x : Int) ⟨by omega, by omega⟩)
        have HO6 := Bx.mk (owns_below HO.out hbA)
        have HB6 := Bx.mk (bstep HB.out hbA)
        clear hbA HO HB
        go_wp2_with (at_builtin; refine wpList_append_bts rfl _ _ rfl wa.heap.size _ _ _ rfl HO6.out (some ⟨wr.heap.size, 0, none⟩) _ 1 [(x : Int)] rfl HV6.out (by omega) HB6.out.size ?_)
        intro v7 w7 ho7 hb7 hg7
        have HO7 : Bx (w7.ownsRow wa.heap.size 5 1 v7 (P ++ o.take (m + 1)).length (bv (P ++ o.take (m + 1)))) := ⟨by rw [HTK.out, List.length_append]; exact ho7⟩
        have HB7 : Bx (Below wa.heap.size wa w7) := ⟨HB6.out.trans hb7⟩
        clear ho7 hb7 hg7 HO6 HV6 HB6 c2
        go_wp2_with fail
        go_roundw
        case rel => exact ⟨m + 1, by omega, by go_num, HO7, HB7⟩
        case measure => simp [intOf]; omega
      · have hkI : ¬ (m : Int) < (len : Int) := by omega
        obtain rfl : m = len := by omega
        have HFO : Bx (wr.ownsRow w.heap.size 5 1 vO (TX).length (bv (TX))) := ⟨by
          have h1 := owns_base HO.out HB0.out.size
          rw [List.take_of_length_le (by rw [HLEN.out]; omega), HE.out] at h1; exact h1⟩
        have HFB := Bx.mk (bstep HB0.out HB.out)
        clear HO HB
        go_wp2_with fail
        go_ret2
        exact ecp_ok HCK.out HTX.out HFO.out HFB.out
  · rw [hok]
    have HCK := Bx.mk hok
    clear hok
    have HB2 := Bx.mk (bstep HB0.out HB1.out)
    go_wp2_with fail
    go_ret2
    exact ecp_no HCK.out HB2.out
end Go.Proofs.YtbednfacipphhaaDoor
