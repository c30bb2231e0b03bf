/- What the document's own CheckGrowth answers. -/
import Derived.Test.YtfkloilbjfleeaaDoorRefCheck
import Derived.Test.YtfkloilbjfleeaaDoorGrowCheck
namespace Go.Proofs.YtfkloilbjfleeaaDoor
open Go.RowKit
set_option linter.unusedVariables false

set_option maxRecDepth 100000 in
theorem gwh_add (b c : Bool) (s : List Bool) : gwh b (s ++ [c]) = (gwh b s && !c) := by simp [gwh, Bool.and_assoc]

/-- what stays while a growth is checked: both roots, the growth, the steps; not the digests in the blocks Va, Vb -/
structure GQ (Va Vb : Nat) (old root : List Int) (a : Option Addr) (len cap : Nat) (P : List (List Int)) (base : Nat) (sv : Value) (SL : List Bool) (w wr : World) : Prop where
  low : Below w.heap.size w wr
  lta : Va < wr.heap.size
  ltb : Vb < wr.heap.size
  od : wr.heap[w.heap.size]? = some (.cells (bv old).toArray 42 (0, 0))
  rt : wr.heap[w.heap.size + 1]? = some (.cells (bv root).toArray 42 (0, 0))
  pth : Dgs wr a len cap P
  stp : wr.ownsRow base 4 1 sv SL.length (bb SL)
variable {Va Vb VR base : Nat} {old root r : List Int} {a : Option Addr} {len cap : Nat} {P : List (List Int)} {sv : Value} {SL : List Bool} {w wr w1 : World}
set_option maxRecDepth 100000 in
theorem GQ.step (h : GQ Va Vb old root a len cap P base sv SL w wr) (hb : Below wr.heap.size wr w1) : GQ Va Vb old root a len cap P base sv SL w w1 := by
  have hs := h.low.size
  exact ⟨h.low.trans (hb.mono hs), Nat.lt_of_lt_of_le h.lta hb.size, Nat.lt_of_lt_of_le h.ltb hb.size, (hb.block _ (Array.getElem?_eq_some_iff.1 h.od).1).trans h.od, (hb.block _ (Array.getElem?_eq_some_iff.1 h.rt).1).trans h.rt, h.pth.below hb, owns_below h.stp hb⟩
set_option maxRecDepth 100000 in
theorem GQ.drewN (h : GQ Va Vb old root a len cap P base sv SL w wr) (n : Nat) : GQ Va Vb old root a len cap P base sv SL w (wr.drewN n) := ⟨below_drewN h.low n, h.lta, h.ltb, h.od, h.rt, h.pth.drewN n, owns_drewN h.stp n⟩
set_option maxRecDepth 100000 in
theorem GQ.store {V : Nat} (h : GQ Va Vb old root a len cap P base sv SL w wr) (hV : w.heap.size + 2 ≤ V) (pf : 0 < len → ∀ p, a = some p → p.block ≠ V) (sf : ∀ k, sv.ownBlock = some k → k ≠ V) (vs : List Value) : GQ Va Vb old root a len cap P base sv SL w (wr.setCells V 0 vs) := by
  have hbut : But V wr (wr.setCells V 0 vs) := (But.refl _ _).setCells vs 0
  exact ⟨below_setCells h.low V (by omega) vs 0, Nat.lt_of_lt_of_le h.lta hbut.size, Nat.lt_of_lt_of_le h.ltb hbut.size, (hbut.block _ (Array.getElem?_eq_some_iff.1 h.od).1 (by omega)).trans h.od, (hbut.block _ (Array.getElem?_eq_some_iff.1 h.rt).1 (by omega)).trans h.rt, h.pth.but2 hbut pf, owns_but h.stp hbut sf⟩
set_option maxRecDepth 100000 in
theorem GQ.elem {pb po k : Nat} (h : GQ Va Vb old root (some ⟨pb, po, none⟩) len cap P base sv SL w wr) (hk : k < len) : wr.rangeAt pb (po + k * 32) (bv (P.getD k [])) := by
  obtain ⟨b, o, e, _, hc⟩ := h.pth.spot (by omega)
  cases e
  rw [Nat.mul_comm k 32]; exact hc k hk
set_option maxRecDepth 100000 in
theorem GQ.bit {sg sl sc k : Nat} (h : GQ Va Vb old root a len cap P base (.slice (some ⟨sg, 0, none⟩) sl sc) SL w wr) (hk : k < SL.length) : wr.cell? ⟨sg, k, none⟩ = some (.bool (SL.getD k false)) := by
  obtain ⟨g, c, e, _, _⟩ := owns_form h.stp (by omega)
  cases e
  rw [h.stp.cellAt k (by omega)]
  unfold bb
  rw [List.getElem?_map, List.getElem?_eq_getElem (by omega), List.getD_eq_getElem?_getD, List.getElem?_eq_getElem (by omega)]; rfl
/-- and the growth's next digest, in the block VR -/
structure GRs (VR : Nat) (r : List Int) (Va Vb : Nat) (old root : List Int) (a : Option Addr) (len cap : Nat) (P : List (List Int)) (base : Nat) (sv : Value) (SL : List Bool) (w wr : World) : Prop where
  q : GQ Va Vb old root a len cap P base sv SL w wr
  rr : wr.heap[VR]? = some (.cells (bv r).toArray 42 (0, 0))
set_option maxRecDepth 100000 in
theorem GRs.step (h : GRs VR r Va Vb old root a len cap P base sv SL w wr) (hb : Below wr.heap.size wr w1) : GRs VR r Va Vb old root a len cap P base sv SL w w1 := ⟨h.q.step hb, (hb.block _ (Array.getElem?_eq_some_iff.1 h.rr).1).trans h.rr⟩
set_option maxRecDepth 100000 in
theorem GRs.drewN (h : GRs VR r Va Vb old root a len cap P base sv SL w wr) (n : Nat) : GRs VR r Va Vb old root a len cap P base sv SL w (wr.drewN n) := ⟨h.q.drewN n, h.rr⟩
set_option maxRecDepth 100000 in
theorem GRs.store {V : Nat} (h : GRs VR r Va Vb old root a len cap P base sv SL w wr) (hV : w.heap.size + 2 ≤ V) (hne : VR ≠ V) (pf : 0 < len → ∀ p, a = some p → p.block ≠ V) (sf : ∀ k, sv.ownBlock = some k → k ≠ V) (vs : List Value) : GRs VR r Va Vb old root a len cap P base sv SL w (wr.setCells V 0 vs) :=
  ⟨h.q.store hV pf sf vs, (((But.refl V wr).setCells vs 0).block _ (Array.getElem?_eq_some_iff.1 h.rr).1 hne).trans h.rr⟩
set_option maxRecDepth 100000 in
theorem row_keep {V U : Nat} {D : Array Value} (h : wr.heap[U]? = some (.cells D 42 (0, 0))) (hne : U ≠ V) (vs : List Value) : (wr.setCells V 0 vs).heap[U]? = some (.cells D 42 (0, 0)) :=
  (((But.refl V wr).setCells vs 0).block _ (Array.getElem?_eq_some_iff.1 h).1 hne).trans h
set_option maxRecDepth 100000 in
theorem row_there {V : Nat} {d Z : List Int} (h : wr.heap[V]? = some (.cells (bv d).toArray 42 (0, 0))) (hd : d.length = 32) (hZ : Z.length = 32) : wr.there V 0 (bv Z).toArray.size := cq_there h hd hZ
set_option maxRecDepth 100000 in
theorem row_put {V : Nat} {d Z : List Int} (h : wr.heap[V]? = some (.cells (bv d).toArray 42 (0, 0))) (hd : d.length = 32) (hZ : Z.length = 32) : (wr.setCells V 0 (bv Z).toArray.toList).heap[V]? = some (.cells (bv Z).toArray 42 (0, 0)) := heap_stored (vs := (bv Z).toArray) h (by rw [List.size_toArray, List.size_toArray, bv_length, bv_length, hd, hZ])
set_option maxRecDepth 100000 in
theorem gq_start {wo w2 w3 : World} {d : List Int} (hlow : Below w.heap.size w wo) (hw : w.heap.size + 2 ≤ wo.heap.size) (hod : wo.heap[w.heap.size]? = some (.cells (bv old).toArray 42 (0, 0))) (hrt : wo.heap[w.heap.size + 1]? = some (.cells (bv root).toArray 42 (0, 0)))
    (hP : Dgs w a len cap P) (hown : wo.ownsRow base 4 1 sv SL.length (bb SL)) (hb2 : Below wo.heap.size wo w2) (hlt : wo.heap.size < w2.heap.size) (hd3 : DV w2 w3 d) : GQ wo.heap.size w2.heap.size old root a len cap P base sv SL w w3 := by
  have hb := bstep hb2 hd3.low
  have hz := hd3.low.size
  exact ⟨bstep hlow hb, by omega, (Array.getElem?_eq_some_iff.1 hd3.row).1, (hb.block _ (by omega)).trans hod, (hb.block _ (by omega)).trans hrt, hP.below (bstep hlow hb), owns_below hown hb⟩
set_option maxRecDepth 100000 in
theorem owns_slice {e : TypeId} {size n : Nat} {v : Value} {xs : List Value} (h : wr.ownsRow base e size v n xs) : ∃ sa sc, v = .slice sa n sc := by
  rcases h.2 with ⟨h1, h0⟩ | ⟨g, c, cur, h1, _⟩
  · exact ⟨_, 0, by rw [h0]; exact h1⟩
  · exact ⟨_, c, h1⟩
set_option maxRecDepth 100000 in
theorem gup_more (x : Int) (d : List Int × List Int) (R : List (List Int)) (c k : Nat) (hR : R.length = SL.length) (h : c + (k + 1) = SL.length) :
    gup x (SL.reverse.take (c + 1)) (R.take (c + 1)) d = (if SL.getD k false then (nodeL (R.getD c []) (gup x (SL.reverse.take c) (R.take c) d).1 x, nodeL (R.getD c []) (gup x (SL.reverse.take c) (R.take c) d).2 x) else ((gup x (SL.reverse.take c) (R.take c) d).1, nodeL (gup x (SL.reverse.take c) (R.take c) d).2 (R.getD c []) x)) := by
  have h1 : c < SL.reverse.length := by rw [List.length_reverse]; omega
  have h2 : c < R.length := by omega
  have e1 : SL.reverse[c] = SL.getD k false := by
    rw [List.getElem_reverse, List.getD_eq_getElem?_getD, List.getElem?_eq_getElem (by omega)]
    simp [show SL.length - 1 - c = k from by omega]
  rw [List.take_succ_eq_append_getElem h1, List.take_succ_eq_append_getElem h2, gup_snoc x _ _ _ _ _ (by rw [List.length_take, List.length_take, List.length_reverse]; omega), e1]
  have e2 : R.getD c [] = R[c] := by rw [List.getD_eq_getElem?_getD, List.getElem?_eq_getElem h2]; rfl
  rw [e2]


set_option maxRecDepth 100000 in
set_option maxHeartbeats 2000000 in
theorem refcheckgrowth_any (old : List Int) (m : Int) (root : List Int) (n : Int) (a : Option Addr) (len cap : Nat) (P : List (List Int)) (x : Int) (w : World) (hold : Dg old) (hr : Dg root) (hn : n ≤ 9223372036854775807) (hP : Dgs w a len cap P) :
    Calls Tryd.prog 47 #[.agg (bv old).toArray, .int .i64 m, .agg (bv root).toArray, .int .i64 n, .slice a len cap, .int .i64 x] w fun e w' => e = .returned (.bool (chkG old m root n P x)) ∧ Below w.heap.size w w' := by
  have hb0 : Below w.heap.size w ((w.alloc (.cells (bv old).toArray 42)).alloc (.cells (bv root).toArray 42)) := ((Below.refl _ _).alloc (Nat.le_refl _) _).alloc (by simp) _
  have hod0 : ((w.alloc (.cells (bv old).toArray 42)).alloc (.cells (bv root).toArray 42)).heap[w.heap.size]? = some (.cells (bv old).toArray 42 (0, 0)) := by rw [heap_alloc_old _ _ (by simp), heap_alloc_new]
  have hrt0 : ((w.alloc (.cells (bv old).toArray 42)).alloc (.cells (bv root).toArray 42)).heap[w.heap.size + 1]? = some (.cells (bv root).toArray 42 (0, 0)) := by rw [show w.heap.size + 1 = (w.alloc (.cells (bv old).toArray 42)).heap.size from by simp, heap_alloc_new]
  have hlen := hP.len_eq
  have hcap := hP.le_cap
  have hcm := hP.cap_le
  unfold maxLen at hcm
  by_cases hin : 1 ≤ m ∧ m ≤ n
  · obtain ⟨j, rfl⟩ : ∃ j : Nat, m = (j : Int) := ⟨m.toNat, by omega⟩
    obtain ⟨q, rfl⟩ : ∃ q : Nat, n = (q : Int) := ⟨n.toNat, by omega⟩
    have h1 : decide ((j : Int) < 1) = false := by simp; omega
    have h1' : ¬ (j : Int) < 1 := by omega
    have h2 : decide (q < j) = false := by simp; omega
    have h2' : decide ((q : Int) < (j : Int)) = false := by simp; omega
    have HCH : Bx (chkG old (j : Int) root (q : Int) P x = (decide (P.length = need true (gstepsL q j)) && (decide ((gres x true (gstepsL q j) P old).1 = old) && decide ((gres x true (gstepsL q j) P old).2 = root)))) := ⟨by
      unfold chkG
      rw [show ((q : Int)).toNat = q from by omega, show ((j : Int)).toNat = j from by omega, decide_eq_true hin, Bool.true_and]⟩
    have hbits := gsteps_bits 63 q j (by omega) (by omega)
    have hs0 : ((w.alloc (.cells (bv old).toArray 42)).alloc (.cells (bv root).toArray 42)).heap.size = w.heap.size + 1 + 1 := by simp
    have hj1 : 1 ≤ j := by omega
    have hjq : j ≤ q := by omega
    have hq63 : q ≤ 9223372036854775807 := by omega
    have HLN : Bx (P.length = len) := ⟨hlen⟩
    clear hin hlen hn
    go_enter Tryd.func47, Tryd.ntmps47
    go_wp2
    generalize (w.alloc (.cells (bv old).toArray 42)).alloc (.cells (bv root).toArray 42) = w0 at hb0 hod0 hrt0 hs0 ⊢
    go_loopw [1, 3, 13, 14] (fun vm vn s vb wr => ∃ (p r : Nat) (pre : List Bool), 1 ≤ p ∧ p ≤ r ∧ r ≤ q ∧ vm = .int .i64 p ∧ vn = .int .i64 r ∧ vb = .bool (gwh true pre) ∧ pre ++ gstepsL r p = gstepsL q j ∧ wr.ownsRow w0.heap.size 4 1 s pre.length (bb pre) ∧ Below w0.heap.size w0 wr) (fun _ vn _ _ _ => (intOf vn).toNat)
    case atStart => exact ⟨j, q, [], hj1, hjq, Nat.le_refl _, rfl, rfl, rfl, rfl, World.ownsRow_nil _ _ _ _, Below.refl _ _⟩
    case round =>
      obtain ⟨p, r, pre, hp1, hpr, hrq, rfl, rfl, rfl, hpre, hown, hlow⟩ := hrel
      have HPRE : Hid (pre ++ gstepsL r p = gstepsL q j) := hpre
      have hpl : pre.length ≤ 63 := by
        have := congrArg List.length hpre
        rw [List.length_append] at this; omega
      clear hpre
      have hsz := hlow.size
      by_cases hgt : p < r
      · have hg : (p : Int) < (r : Int) := by omega
        have hk1 := splitN_pos (n := r) (by omega)
        have hk2 := splitN_lt (n := r) (by omega)
        have HSP : Bx (∀ W, Calls Tryd.prog 48 #[.int .i64 (r : Int)] W fun e w' => e = .returned (.int .i64 (splitN r : Int)) ∧ W = w') := ⟨fun W => refsplit_any (r : Int) W (by omega)⟩
        generalize hgw : gwh true pre = wh
        have HGW : Bx (gwh true pre = wh) := ⟨hgw⟩
        clear hgw
        by_cases hqk : p ≤ splitN r
        · have HN : Hid ((pre ++ [false]) ++ gstepsL (splitN r) p = gstepsL q j) := by show _ = _; rw [← HPRE.out, gsteps_left hp1 hgt hqk, List.append_assoc]; rfl
          have HB : Bx (wh = gwh true (pre ++ [false])) := ⟨by rw [gwh_add, HGW.out]; simp⟩
          have hki : decide ((p : Int) > (splitN r : Int)) = false := by simp; omega
          have hki2 : decide (splitN r < p) = false := by simp; omega
          clear HPRE
          generalize splitN r = k at hk1 hk2 HSP hqk HN hki hki2
          go_wp2_with fail
          refine (HSP.out _).mono ?_
          rintro e w' ⟨rfl, rfl⟩
          clear HSP
          go_wp2_with (at_builtin; refine wpList_append_bool rfl (.tmp 34) (.tmp 38) rfl w0.heap.size pre.length _ pre rfl hown false rfl (by omega) hsz ?_; intro v2 w2 hown2 hb2; have hlow2 := hlow.trans hb2; clear hb2 hown)
          go_roundw
          case rel => exact ⟨p, k, pre ++ [false], hp1, hqk, by omega, rfl, rfl, by rw [HB.out], HN.out, by rw [List.length_append]; exact hown2, hlow2⟩
          case measure => simp [intOf]; omega
        · have HN : Hid ((pre ++ [true]) ++ gstepsL (r - splitN r) (p - splitN r) = gstepsL q j) := by show _ = _; rw [← HPRE.out, gsteps_right hgt hqk, List.append_assoc]; rfl
          have HB : Bx (false = gwh true (pre ++ [true])) := ⟨by rw [gwh_add]; simp⟩
          have hki : decide ((p : Int) > (splitN r : Int)) = true := by simp; omega
          have hki2 : decide (splitN r < p) = true := by simp; omega
          clear HPRE
          generalize splitN r = k at hk1 hk2 HSP hqk HN hki hki2
          go_wp2_with fail
          refine (HSP.out _).mono ?_
          rintro e w' ⟨rfl, rfl⟩
          clear HSP
          go_wp2_with (at_builtin; refine wpList_append_bool rfl (.tmp 34) (.tmp 38) rfl w0.heap.size pre.length _ pre rfl hown true rfl (by omega) hsz ?_; intro v2 w2 hown2 hb2; have hlow2 := hlow.trans hb2; clear hb2 hown)
          go_roundw
          case rel => exact ⟨p - k, r - k, pre ++ [true], by omega, by omega, by omega, by go_num, by go_num, by rw [← HB.out], HN.out, by rw [List.length_append]; exact hown2, hlow2⟩
          case measure => simp [intOf]; omega
      · have hg : ¬ (p : Int) < (r : Int) := by omega
        have HE : Hid (pre = gstepsL q j) := by show _ = _; rw [← HPRE.out, gsteps_end (by omega), List.append_nil]
        obtain ⟨wo, hwo⟩ : ∃ wo, wo = wr := ⟨_, rfl⟩
        subst hwo
        have hlowW : Below w.heap.size w wo := hb0.trans (hlow.mono (by omega))
        have hodW := (hlow.block w.heap.size (by omega)).trans hod0
        have hrtW := (hlow.block (w.heap.size + 1) (by omega)).trans hrt0
        have hwo2 : w.heap.size + 2 ≤ wo.heap.size := by omega
        rw [← HE.out] at HCH
        obtain ⟨SL, hSL⟩ : ∃ SL, SL = pre := ⟨_, rfl⟩
        subst hSL
        have sfar := hown.lt
        have hownW := hown
        obtain ⟨sa, sc, hsf⟩ := owns_slice hown
        subst hsf
        have hP1 := hP.below hlowW
        have hlr := HLN.out
        clear HE HPRE hown hlow hsz hb0 hod0 hrt0 hs0 hp1 hpr hrq hbits hj1 hjq hq63 hgt
        obtain ⟨DO, hDO⟩ : ∃ DO, DO = (bv old).toArray := ⟨_, rfl⟩
        obtain ⟨hdv, hth, hinf, hone⟩ := dig_var wo old hold.1 DO hDO
        have HTH : Bx _ := ⟨hth⟩
        have HDV : Bx _ := ⟨hdv⟩
        have HINF : Bx _ := ⟨hinf⟩
        have HONE : Bx _ := ⟨hone⟩
        have HDO : Bx (DO = (bv old).toArray) := ⟨hDO⟩
        have HOD : Bx (wo.heap[w.heap.size]? = some (.cells DO 42 (0, 0))) := ⟨by rw [hDO]; exact hodW⟩
        clear hdv hth hinf hone hDO
        generalize hgw : gwh true SL = wh
        cases wh with
        | true =>
          have HCH2 : Bx (chkG old (j : Int) root (q : Int) P x = (decide (P.length = SL.length) && (decide ((gup x SL.reverse P (old, old)).1 = old) && decide ((gup x SL.reverse P (old, old)).2 = root)))) := ⟨by
            have e1 : need true SL = SL.length := by unfold need; rw [hgw]; rfl
            have e2 : gres x true SL P old = gup x SL.reverse P (old, old) := by unfold gres; rw [hgw]; rfl
            rw [HCH.out, e1, e2]⟩
          clear HCH hgw
          by_cases hse : len = SL.length
          · have hne : ((len : Int) != (SL.length : Int)) = false := by rw [hse]; simp
            have HU : Bx (chkG old (j : Int) root (q : Int) P x = (decide ((gup x SL.reverse P (old, old)).1 = old) && decide ((gup x SL.reverse P (old, old)).2 = root))) := ⟨by rw [HCH2.out, decide_eq_true (show P.length = SL.length by omega), Bool.true_and]⟩
            have HLE : Bx (len = SL.length + 0) := ⟨hse⟩
            have HRL : Bx (P.length = SL.length) := ⟨by omega⟩
            have HRG : Bx (∀ c : Nat, P.getD c [] = P.getD (c + 0) []) := ⟨fun _ => rfl⟩
            clear HCH2 hse hlr
            go_wp2_with (first
              | (refine wpList_load_row rfl 42 (.tmp 6) rfl w.heap.size rfl 42 DO (0, 0) _ HOD.out Tryd.underlying42 rfl HINF.out ?_)
              | (refine wpList_store_mid rfl 42 (.tmp 17) (.tmp 60) rfl wo.heap.size 0 DO rfl rfl ?ht HINF.out HONE.out ?_; (case ht => exact HTH.out); have hdv2 := HDV.out; generalize (wo.alloc (.cells #[.int .u8 0, .int .u8 0, .int .u8 0, .int .u8 0, .int .u8 0, .int .u8 0, .int .u8 0, .int .u8 0, .int .u8 0, .int .u8 0, .int .u8 0, .int .u8 0, .int .u8 0, .int .u8 0, .int .u8 0, .int .u8 0, .int .u8 0, .int .u8 0, .int .u8 0, .int .u8 0, .int .u8 0, .int .u8 0, .int .u8 0, .int .u8 0, .int .u8 0, .int .u8 0, .int .u8 0, .int .u8 0, .int .u8 0, .int .u8 0, .int .u8 0, .int .u8 0] 42)).setCells wo.heap.size 0 DO.toList = w2 at hdv2 ⊢; clear HDV HTH; obtain ⟨hdvb, hthb, _, _⟩ := dig_var w2 old hold.1 DO HDO.out; have HDVB : Bx _ := ⟨hdvb⟩; have HTHB : Bx _ := ⟨hthb⟩; have HVA : Bx (w2.heap[wo.heap.size]? = some (.cells DO 42 (0, 0))) := ⟨by rw [HDO.out]; exact hdv2.row⟩; clear hdvb hthb)
              | (refine wpList_load_row rfl 42 (.tmp 17) rfl wo.heap.size rfl 42 DO (0, 0) _ HVA.out Tryd.underlying42 rfl HINF.out ?_)
              | (refine wpList_store_mid rfl 42 (.tmp 19) (.tmp 66) rfl w2.heap.size 0 DO rfl rfl ?ht2 HINF.out HONE.out ?_; (case ht2 => exact HTHB.out); have hdv3 := HDVB.out; generalize (w2.alloc (.cells #[.int .u8 0, .int .u8 0, .int .u8 0, .int .u8 0, .int .u8 0, .int .u8 0, .int .u8 0, .int .u8 0, .int .u8 0, .int .u8 0, .int .u8 0, .int .u8 0, .int .u8 0, .int .u8 0, .int .u8 0, .int .u8 0, .int .u8 0, .int .u8 0, .int .u8 0, .int .u8 0, .int .u8 0, .int .u8 0, .int .u8 0, .int .u8 0, .int .u8 0, .int .u8 0, .int .u8 0, .int .u8 0, .int .u8 0, .int .u8 0, .int .u8 0, .int .u8 0] 42)).setCells w2.heap.size 0 DO.toList = w3 at hdv3 ⊢; clear HDVB HTHB))
            have hb2 := hdv2.low
            have hva2 := hdv2.row
            have hlt2 : wo.heap.size < w2.heap.size := (Array.getElem?_eq_some_iff.1 hdv2.row).1
            clear hdv2 HVA HOD HINF HONE HDO hP1
            obtain ⟨a0, ha0e⟩ : ∃ a0, a0 = old := ⟨_, rfl⟩
            have ha0 : Dg a0 := by rw [ha0e]; exact hold
            rw [← ha0e] at hva2 hdv3
            replace HU : Bx (chkG old (j : Int) root (q : Int) P x = (decide ((gup x SL.reverse P (a0, a0)).1 = old) && decide ((gup x SL.reverse P (a0, a0)).2 = root))) := by rw [ha0e]; exact HU
            clear ha0e
            obtain ⟨R, hR⟩ : ∃ R, R = P := ⟨_, rfl⟩
            replace HU : Bx (chkG old (j : Int) root (q : Int) P x = (decide ((gup x SL.reverse R (a0, a0)).1 = old) && decide ((gup x SL.reverse R (a0, a0)).2 = root))) := by rw [hR]; exact HU
            replace HRL : Bx (R.length = SL.length) := by rw [hR]; exact HRL
            replace HRG : Bx (∀ c : Nat, R.getD c [] = P.getD (c + 0) []) := by rw [hR]; exact HRG
            clear hR
            have hVa : w.heap.size + 2 ≤ wo.heap.size := hwo2
            have hab : wo.heap.size < w2.heap.size := hlt2
            have pfa : 0 < len → ∀ p, a = some p → p.block ≠ wo.heap.size := hP.old (by omega)
            have pfb : 0 < len → ∀ p, a = some p → p.block ≠ w2.heap.size := hP.old (by omega)
            have sfa : ∀ k, (Value.slice sa SL.length sc).ownBlock = some k → k ≠ wo.heap.size := fun k hk => by have := (sfar k hk).2; omega
            have sfb : ∀ k, (Value.slice sa SL.length sc).ownBlock = some k → k ≠ w2.heap.size := fun k hk => by have := (sfar k hk).2; omega
            have hGQ : GQ wo.heap.size w2.heap.size old root a len cap P w0.heap.size (.slice sa SL.length sc) SL w w3 := gq_start hlowW hwo2 hodW hrtW hP hownW hb2 hlt2 hdv3
            have hva := (hdv3.low.block _ hlt2).trans hva2
            have hvb := hdv3.row
            clear hlowW hodW hrtW hb2 hdv3 hva2 hP hownW hlt2 hwo2 sfar
            generalize wo.heap.size = Va at hVa hab pfa sfa hGQ hva ⊢
            generalize w2.heap.size = Vb at hab pfb sfb hGQ hvb ⊢
            go_loopw [18, 20] (fun vt vi wr => ∃ t c k : Nat, t = c + 0 ∧ c + k = SL.length ∧ vt = .int .i64 t ∧ vi = .int .i64 ((k : Int) - 1) ∧ GQ Va Vb old root a len cap P w0.heap.size (.slice sa SL.length sc) SL w wr ∧ wr.heap[Va]? = some (.cells (bv (gup x (SL.reverse.take c) (R.take c) (a0, a0)).1).toArray 42 (0, 0)) ∧ wr.heap[Vb]? = some (.cells (bv (gup x (SL.reverse.take c) (R.take c) (a0, a0)).2).toArray 42 (0, 0))) (fun _ vi _ => (intOf vi + 1).toNat)
            case atStart => exact ⟨0, 0, SL.length, by omega, by omega, rfl, by first | rfl | go_num, hGQ, hva, hvb⟩
            case round =>
              clear hGQ hva hvb
              obtain ⟨t, c, k, ht, hck, rfl, hvi, hGQ, hva, hvb⟩ := hrel
              obtain ⟨hfd, hgd⟩ := gup_dg x (SL.reverse.take c) (R.take c) (a0, a0) ha0 ha0
              cases k with
              | zero =>
                replace hvi : u20 = Value.int .i64 (-1) := hvi
                subst hvi
                have HE2 : Bx (SL.reverse.take c = SL.reverse ∧ R.take c = R) := ⟨List.take_of_length_le (by rw [List.length_reverse]; omega), List.take_of_length_le (by rw [HRL.out]; omega)⟩
                rw [HE2.out.1, HE2.out.2] at hva hvb hfd hgd
                have HUV := HU.out
                generalize gup x SL.reverse R (a0, a0) = fg at hva hvb hfd hgd HUV
                obtain ⟨f, g⟩ := fg
                replace hva : _ = some (Obj.cells (bv f).toArray 42 (0, 0)) := hva
                replace hvb : _ = some (Obj.cells (bv g).toArray 42 (0, 0)) := hvb
                replace hfd : Dg f := hfd
                replace hgd : Dg g := hgd
                have hcmp1 := dig_cmp f old hfd.1 hold.1
                have hcmp2 := dig_cmp g root hgd.1 hr.1
                obtain ⟨HIF, _, _⟩ := dgi hfd.1
                obtain ⟨HIG, _, _⟩ := dgi hgd.1
                have HC1 : Bx (decide (f = old) = false → false = chkG old (j : Int) root (q : Int) P x) := ⟨fun h => by
                  rw [HUV]
                  show false = (decide (f = old) && decide (g = root))
                  rw [h, Bool.false_and]⟩
                have HC2 : Bx (decide (f = old) = true → decide (g = root) = chkG old (j : Int) root (q : Int) P x) := ⟨fun h => by
                  rw [HUV]
                  show decide (g = root) = (decide (f = old) && decide (g = root))
                  rw [h, Bool.true_and]⟩
                have HF2 : Bx _ := ⟨hva⟩
                have HG2 : Bx _ := ⟨hvb⟩
                have HO2 : Bx _ := ⟨hGQ.od⟩
                have HR2 : Bx _ := ⟨hGQ.rt⟩
                have hlowE := hGQ.low
                generalize decide (f = old) = c1 at hcmp1 HC1 HC2
                generalize decide (g = root) = c2 at hcmp2 HC2
                clear HUV HU HE2 hGQ hva hvb hck ht
                obtain ⟨HIO3, _, _⟩ := dgi hold.1
                obtain ⟨HIR3, _, _⟩ := dgi hr.1
                generalize (bv f).toArray = DF at hcmp1 HF2 HIF
                generalize (bv g).toArray = DG at hcmp2 HG2 HIG
                generalize (bv old).toArray = DO3 at hcmp1 HO2 HIO3
                generalize (bv root).toArray = DT3 at hcmp2 HR2 HIR3
                cases c1 with
                | true =>
                  have HUB : Bx _ := ⟨HC2.out rfl⟩
                  clear HC1 HC2
                  go_wp2_with (first
                    | (refine wpList_load_row rfl 42 (.tmp 17) rfl Va rfl 42 DF (0, 0) _ HF2.out Tryd.underlying42 rfl HIF.out ?_)
                    | (refine wpList_load_row rfl 42 (.tmp 6) rfl w.heap.size rfl 42 DO3 (0, 0) _ HO2.out Tryd.underlying42 rfl HIO3.out ?_)
                    | (refine wpList_load_guarded (b := Vb) (D := DG) rfl (.tmp 19) rfl rfl HG2.out HIG.out ?_)
                    | (refine wpList_load_guarded (b := w.heap.size + 1) (D := DT3) rfl (.tmp 8) rfl rfl HR2.out HIR3.out ?_))
                  go_ret
                  exact ⟨ret_bool HUB.out, hlowE⟩
                | false =>
                  have HUB : Bx _ := ⟨HC1.out rfl⟩
                  clear HC1 HC2
                  go_wp2_with (first
                    | (refine wpList_load_row rfl 42 (.tmp 17) rfl Va rfl 42 DF (0, 0) _ HF2.out Tryd.underlying42 rfl HIF.out ?_)
                    | (refine wpList_load_row rfl 42 (.tmp 6) rfl w.heap.size rfl 42 DO3 (0, 0) _ HO2.out Tryd.underlying42 rfl HIO3.out ?_))
                  go_ret
                  exact ⟨ret_bool HUB.out, hlowE⟩
              | succ k =>
                replace hvi : u20 = Value.int .i64 (k : Int) := by rw [hvi]; congr 1; omega
                subst hvi
                have HM := gup_more x (a0, a0) R c k HRL.out hck
                have hkl : k < SL.length := by omega
                have htl : t < len := by have := HLE.out; omega
                have hkl' : (k : Int) < (SL.length : Int) := by omega
                have htl' : (t : Int) < (len : Int) := by omega
                have HT : Bx (t = c + 0) := ⟨ht⟩
                have HCK : Bx (c + (k + 1) = SL.length) := ⟨hck⟩
                have htm : (t : Int) ≤ 9223372036854775800 := by omega
                rw [HRG.out c, show P.getD (c + 0) [] = P.getD t [] from by rw [ht]] at HM
                clear ht hck
                obtain ⟨pb, po, rfl, _, _⟩ := hGQ.pth.spot (by omega)
                obtain ⟨sg, sc2, hsv, _, _⟩ := owns_form hGQ.stp (by omega)
                cases hsv
                have hrd := hGQ.pth.dig.getD t (by rw [hGQ.pth.len_eq]; exact htl)
                have HEL : Bx _ := ⟨hGQ.elem htl⟩
                have HBIT : Bx (∀ W, GQ Va Vb old root (some ⟨pb, po, none⟩) len cap P w0.heap.size (.slice (some ⟨sg, 0, none⟩) SL.length sc) SL w W → W.cell? ⟨sg, k, none⟩ = some (.bool (SL.getD k false))) := ⟨fun W h => h.bit hkl⟩
                generalize P.getD t [] = r at HM hrd HEL
                generalize SL.getD k false = bit at HM HBIT
                generalize hfg : gup x (SL.reverse.take c) (R.take c) (a0, a0) = fg at hva hvb hfd hgd HM
                obtain ⟨f, g⟩ := fg
                replace hva : _ = some (Obj.cells (bv f).toArray 42 (0, 0)) := hva
                replace hvb : _ = some (Obj.cells (bv g).toArray 42 (0, 0)) := hvb
                replace hfd : Dg f := hfd
                replace hgd : Dg g := hgd
                clear hfg
                have HMB : Bx _ := ⟨HM⟩
                obtain ⟨DR, hDR⟩ : ∃ DR, DR = (bv r).toArray := ⟨_, rfl⟩
                obtain ⟨hdv, hth, hinf, hone⟩ := dig_var wr r hrd.1 DR hDR
                have HTHR : Bx _ := ⟨hth⟩
                have HDVR : Bx _ := ⟨hdv⟩
                have HINR : Bx _ := ⟨hinf⟩
                have HONR : Bx _ := ⟨hone⟩
                have HDR : Bx (DR = (bv r).toArray) := ⟨hDR⟩
                obtain ⟨HIr, _, hir⟩ := dgi hrd.1
                have HIR4 : Bx _ := ⟨hir⟩
                have hlar := hGQ.lta
                have hlbr := hGQ.ltb
                clear HM hdv hth hinf hone hDR hir
                cases bit with
                | true =>
                  go_wp2_with (first
                    | (refine wpList_load_mid rfl 42 (.tmp 76) rfl pb (po + t * 32) rfl (bv r) _ HEL.out Tryd.underlying42 rfl HIR4.out ?_; rw [← HDR.out])
                    | (refine wpList_store_mid rfl 42 (.tmp 21) (.tmp 77) rfl wr.heap.size 0 DR rfl rfl ?htr HINR.out HONR.out ?_; (case htr => exact HTHR.out); have hdv4 := HDVR.out; generalize (wr.alloc (.cells #[.int .u8 0, .int .u8 0, .int .u8 0, .int .u8 0, .int .u8 0, .int .u8 0, .int .u8 0, .int .u8 0, .int .u8 0, .int .u8 0, .int .u8 0, .int .u8 0, .int .u8 0, .int .u8 0, .int .u8 0, .int .u8 0, .int .u8 0, .int .u8 0, .int .u8 0, .int .u8 0, .int .u8 0, .int .u8 0, .int .u8 0, .int .u8 0, .int .u8 0, .int .u8 0, .int .u8 0, .int .u8 0, .int .u8 0, .int .u8 0, .int .u8 0, .int .u8 0] 42)).setCells wr.heap.size 0 DR.toList = w4 at hdv4 ⊢; clear HDVR HTHR; have hGQ4 := hGQ.step hdv4.low; have hcell := HBIT.out _ hGQ4))
                  have hk : GRs wr.heap.size r Va Vb old root (some ⟨pb, po, none⟩) len cap P w0.heap.size (.slice (some ⟨sg, 0, none⟩) SL.length sc) SL w (w4.drewN 1) := GRs.drewN ⟨hGQ4, hdv4.row⟩ 1
                  have hv1 : (w4.drewN 1).heap[Va]? = some (.cells (bv f).toArray 42 (0, 0)) := (hdv4.low.block _ hlar).trans hva
                  have hv2 : (w4.drewN 1).heap[Vb]? = some (.cells (bv g).toArray 42 (0, 0)) := (hdv4.low.block _ hlbr).trans hvb
                  clear hva hvb hGQ hGQ4 hdv4 hcell HBIT HEL HINR HONR
                  have hia := Nat.ne_of_gt hlar
                  have hib := Nat.ne_of_gt hlbr
                  generalize wr.heap.size = VR at hk hlar hlbr hia hib ⊢
                  obtain ⟨Y, hY⟩ : ∃ Y, Y = nodeL r f x := ⟨_, rfl⟩
                  obtain ⟨Z, hZ⟩ : ∃ Z, Z = nodeL r g x := ⟨_, rfl⟩
                  have hYd : Dg Y := by rw [hY]; exact nodeL_dg _ _ _
                  have hZd : Dg Z := by rw [hZ]; exact nodeL_dg _ _ _
                  have HN1 : Bx (∀ W, Calls Tryd.prog 50 #[.agg (bv r).toArray, .agg (bv f).toArray, .int .i64 x] W fun e w' => e = .returned (.agg (bv Y).toArray) ∧ Below W.heap.size W w') := ⟨fun W => by rw [hY]; exact refnode_any r f x W hrd hfd⟩
                  have HN2 : Bx (∀ W, Calls Tryd.prog 50 #[.agg (bv r).toArray, .agg (bv g).toArray, .int .i64 x] W fun e w' => e = .returned (.agg (bv Z).toArray) ∧ Below W.heap.size W w') := ⟨fun W => by rw [hZ]; exact refnode_any r g x W hrd hgd⟩
                  have HNX : Bx (gup x (SL.reverse.take (c + 1)) (R.take (c + 1)) (a0, a0) = (Y, Z)) := ⟨by rw [HMB.out, hY, hZ]; rfl⟩
                  obtain ⟨HIY, HOY, _⟩ := dgi hYd.1
                  obtain ⟨HIZ, HOZ, _⟩ := dgi hZd.1
                  obtain ⟨_, _, hir⟩ := dgi hrd.1
                  obtain ⟨_, _, hif⟩ := dgi hfd.1
                  obtain ⟨_, _, hig⟩ := dgi hgd.1
                  clear hY hZ HMB HDR HIr HIR4
                  refine wp_region_held_drew (S := fun W => GRs VR r Va Vb old root (some ⟨pb, po, none⟩) len cap P w0.heap.size (.slice (some ⟨sg, 0, none⟩) SL.length sc) SL w W) (by kernel_rfl) hk (fun _ => ?_)
                  refine wpAnyH_take (i := 0) (oi := { dst := some 84, op := Op.load 42 (Operand.tmp 21), type := 42, pos := "ref.go:166", after := #[], guard := none }) (v := .agg (bv r).toArray) rfl (by kernel_rfl) (by kernel_rfl) (by kernel_rfl) (fun _ _ _ h => h) (yieldsIf_load_mid (by rfl) 42 (.tmp 21) rfl VR 0 rfl (bv r) _ (fun W h => range_row h.rr) Tryd.underlying42 rfl hir) hk ?_
                  simp only [Act.put, List.setIfInBounds_toArray, List.set_cons_zero, List.set_cons_succ]
                  refine wpAnyH_take (i := 2) (oi := { dst := some 86, op := Op.move (Operand.tmp 5), type := 3, pos := "ref.go:166", after := #[], guard := none }) (v := ?vrgc11) rfl (by kernel_rfl) (by kernel_rfl) (by kernel_rfl) (fun _ _ _ h => h) (Or.inl ⟨by rfl, ?yrgc11⟩) hk ?rrgc11
                  case yrgc11 => (intro w hSw; (try dsimp only at hSw); go_simp; first | done | with_reducible rfl)
                  simp only [Act.put, List.setIfInBounds_toArray, List.set_cons_zero, List.set_cons_succ]
                  refine wpAnyH_take (i := 4) (oi := { dst := some 88, op := Op.load 42 (Operand.tmp 21), type := 42, pos := "ref.go:166", after := #[], guard := none }) (v := .agg (bv r).toArray) rfl (by kernel_rfl) (by kernel_rfl) (by kernel_rfl) (fun _ _ _ h => h) (yieldsIf_load_mid (by rfl) 42 (.tmp 21) rfl VR 0 rfl (bv r) _ (fun W h => range_row h.rr) Tryd.underlying42 rfl hir) hk ?_
                  simp only [Act.put, List.setIfInBounds_toArray, List.set_cons_zero, List.set_cons_succ]
                  refine wpAnyH_take (i := 6) (oi := { dst := some 90, op := Op.move (Operand.tmp 5), type := 3, pos := "ref.go:166", after := #[], guard := none }) (v := ?vrgc12) rfl (by kernel_rfl) (by kernel_rfl) (by kernel_rfl) (fun _ _ _ h => h) (Or.inl ⟨by rfl, ?yrgc12⟩) hk ?rrgc12
                  case yrgc12 => (intro w hSw; (try dsimp only at hSw); go_simp; first | done | with_reducible rfl)
                  simp only [Act.put, List.setIfInBounds_toArray, List.set_cons_zero, List.set_cons_succ]
                  refine wpAnyH_ready (rs := [1, 5]) (by decide +kernel) (by simp) ?_
                  refine (AllReadyH.cons (o := { dst := some 85, op := Op.load 42 (Operand.tmp 17), type := 42, pos := "ref.go:166", after := #[], guard := none }) rfl (fun K hK => ?_) (AllReadyH.cons (o := { dst := some 89, op := Op.load 42 (Operand.tmp 19), type := 42, pos := "ref.go:166", after := #[], guard := none }) rfl (fun K hK => ?_) AllReadyH.nil))
                  · rw [if_pos (by rfl)]
                    refine wp_load_mid 42 (.tmp 17) rfl Va 0 rfl (bv f) _ (range_row hv1) Tryd.underlying42 rfl hif ?_
                    simp only [Act.put, List.setIfInBounds_toArray, List.set_cons_zero, List.set_cons_succ]
                    refine hK.out _ _ hk (fun _ => ?_)
                    clear hK K
                    try simp only [Act.put, List.setIfInBounds_toArray, List.set_cons_zero, List.set_cons_succ]
                    refine wpAnyH_ready (rs := [3, 5]) (by decide +kernel) (by simp) ?_
                    refine (AllReadyH.cons (o := { dst := some 87, op := Op.call { callee := Callee.value (Operand.func 50), args := #[Operand.tmp 84, Operand.tmp 85, Operand.tmp 86], argTypes := #[42, 42, 3] }, type := 42, pos := "ref.go:166", after := #[{ on := 0, ground := Ground.data }, { on := 1, ground := Ground.data }, { on := 2, ground := Ground.data }], guard := none }) rfl (fun K hK => ?_) (AllReadyH.cons (o := { dst := some 89, op := Op.load 42 (Operand.tmp 19), type := 42, pos := "ref.go:166", after := #[], guard := none }) rfl (fun K hK => ?_) AllReadyH.nil))
                    · go_simp
                      refine (HN1.out _).mono ?_
                      rintro e1 w3 ⟨rfl, hb1⟩
                      replace hv1 := (hb1.block _ (Array.getElem?_eq_some_iff.1 hv1).1).trans hv1
                      replace hv2 := (hb1.block _ (Array.getElem?_eq_some_iff.1 hv2).1).trans hv2
                      replace hk := hk.step hb1
                      clear hb1
                      refine hK.out _ _ hk (fun _ => ?_)
                      clear hK K
                      try simp only [Act.put, List.setIfInBounds_toArray, List.set_cons_zero, List.set_cons_succ]
                      refine wpAnyH_ready (rs := [5]) (by decide +kernel) (by simp) ?_
                      refine AllReadyH.cons (o := { dst := some 89, op := Op.load 42 (Operand.tmp 19), type := 42, pos := "ref.go:166", after := #[], guard := none }) rfl (fun K hK => ?_) AllReadyH.nil
                      rw [if_pos (by rfl)]
                      refine wp_load_mid 42 (.tmp 19) rfl Vb 0 rfl (bv g) _ (range_row hv2) Tryd.underlying42 rfl hig ?_
                      simp only [Act.put, List.setIfInBounds_toArray, List.set_cons_zero, List.set_cons_succ]
                      refine hK.out _ _ hk (fun _ => ?_)
                      clear hK K
                      try simp only [Act.put, List.setIfInBounds_toArray, List.set_cons_zero, List.set_cons_succ]
                      refine wpAnyH_ready (rs := [7]) (by decide +kernel) (by simp) ?_
                      refine AllReadyH.cons (o := { dst := some 91, op := Op.call { callee := Callee.value (Operand.func 50), args := #[Operand.tmp 88, Operand.tmp 89, Operand.tmp 90], argTypes := #[42, 42, 3] }, type := 42, pos := "ref.go:166", after := #[{ on := 4, ground := Ground.data }, { on := 5, ground := Ground.data }, { on := 6, ground := Ground.data }, { on := 3, ground := Ground.chain }], guard := none }) rfl (fun K hK => ?_) AllReadyH.nil
                      go_simp
                      refine (HN2.out _).mono ?_
                      rintro e1 w7 ⟨rfl, hb1⟩
                      replace hv1 := (hb1.block _ (Array.getElem?_eq_some_iff.1 hv1).1).trans hv1
                      replace hv2 := (hb1.block _ (Array.getElem?_eq_some_iff.1 hv2).1).trans hv2
                      replace hk := hk.step hb1
                      clear hb1
                      refine hK.out _ _ hk (fun _ => ?_)
                      clear hK K
                      try simp only [Act.put, List.setIfInBounds_toArray, List.set_cons_zero, List.set_cons_succ]
                      refine wpAnyH_ready (rs := [8]) (by decide +kernel) (by simp) ?_
                      refine AllReadyH.cons (o := { dst := none, op := Op.store 42 (Operand.tmp 17) (Operand.tmp 87), type := 0, pos := "ref.go:166", after := #[{ on := 3, ground := Ground.data }, { on := 7, ground := Ground.chain }, { on := 0, ground := Ground.phase }, { on := 1, ground := Ground.phase }, { on := 2, ground := Ground.phase }, { on := 3, ground := Ground.phase }, { on := 4, ground := Ground.textOnly Departure.lateStores }, { on := 5, ground := Ground.textOnly Departure.lateStores }, { on := 6, ground := Ground.textOnly Departure.lateStores }, { on := 7, ground := Ground.textOnly Departure.lateStoresUnsure }], guard := none }) rfl (fun K hK => ?_) AllReadyH.nil
                      rw [if_pos (by rfl)]
                      refine wp_store_mid 42 (.tmp 17) (.tmp 87) rfl Va 0 (bv Y).toArray rfl rfl ?htrgc15 HIY.out HOY.out ?_
                      case htrgc15 => exact row_there hv1 hfd.1 hYd.1
                      replace hv1 := row_put hv1 hfd.1 hYd.1
                      replace hv2 := row_keep hv2 (Nat.ne_of_gt hab) (bv Y).toArray.toList
                      replace hk := hk.store hVa hia pfa sfa (bv Y).toArray.toList
                      simp only [Act.put]
                      refine hK.out _ _ hk (fun _ => ?_)
                      clear hK K
                      try simp only [Act.put, List.setIfInBounds_toArray, List.set_cons_zero, List.set_cons_succ]
                      refine wpAnyH_ready (rs := [9]) (by decide +kernel) (by simp) ?_
                      refine AllReadyH.cons (o := { dst := none, op := Op.store 42 (Operand.tmp 19) (Operand.tmp 91), type := 0, pos := "ref.go:166", after := #[{ on := 7, ground := Ground.data }, { on := 8, ground := Ground.chain }, { on := 0, ground := Ground.phase }, { on := 1, ground := Ground.phase }, { on := 2, ground := Ground.phase }, { on := 3, ground := Ground.phase }, { on := 4, ground := Ground.phase }, { on := 5, ground := Ground.phase }, { on := 6, ground := Ground.phase }, { on := 7, ground := Ground.phase }, { on := 8, ground := Ground.phase }], guard := none }) rfl (fun K hK => ?_) AllReadyH.nil
                      rw [if_pos (by rfl)]
                      refine wp_store_mid 42 (.tmp 19) (.tmp 91) rfl Vb 0 (bv Z).toArray rfl rfl ?htrgc16 HIZ.out HOZ.out ?_
                      case htrgc16 => exact row_there hv2 hgd.1 hZd.1
                      replace hv1 := row_keep hv1 (Nat.ne_of_lt hab) (bv Z).toArray.toList
                      replace hv2 := row_put hv2 hgd.1 hZd.1
                      replace hk := hk.store (by omega) hib pfb sfb (bv Z).toArray.toList
                      simp only [Act.put]
                      refine hK.out _ _ hk (fun _ => ?_)
                      clear hK K
                      try simp only [Act.put, List.setIfInBounds_toArray, List.set_cons_zero, List.set_cons_succ]
                      refine wpAnyH_done (by decide +kernel) ?_ _
                      have hGQ := hk.q
                      clear hk
                      go_wp2
                      go_roundw
                      case rel => exact ⟨t + 1, c + 1, k, by have := HT.out; omega, by have := HCK.out; omega, by go_num, by go_num, hGQ, by rw [HNX.out]; exact hv1, by rw [HNX.out]; exact hv2⟩
                      case measure => simp [intOf]
                    · rw [if_pos (by rfl)]
                      refine wp_load_mid 42 (.tmp 19) rfl Vb 0 rfl (bv g) _ (range_row hv2) Tryd.underlying42 rfl hig ?_
                      simp only [Act.put, List.setIfInBounds_toArray, List.set_cons_zero, List.set_cons_succ]
                      refine hK.out _ _ hk (fun _ => ?_)
                      clear hK K
                      try simp only [Act.put, List.setIfInBounds_toArray, List.set_cons_zero, List.set_cons_succ]
                      refine wpAnyH_ready (rs := [3]) (by decide +kernel) (by simp) ?_
                      refine AllReadyH.cons (o := { dst := some 87, op := Op.call { callee := Callee.value (Operand.func 50), args := #[Operand.tmp 84, Operand.tmp 85, Operand.tmp 86], argTypes := #[42, 42, 3] }, type := 42, pos := "ref.go:166", after := #[{ on := 0, ground := Ground.data }, { on := 1, ground := Ground.data }, { on := 2, ground := Ground.data }], guard := none }) rfl (fun K hK => ?_) AllReadyH.nil
                      go_simp
                      refine (HN1.out _).mono ?_
                      rintro e1 w3 ⟨rfl, hb1⟩
                      replace hv1 := (hb1.block _ (Array.getElem?_eq_some_iff.1 hv1).1).trans hv1
                      replace hv2 := (hb1.block _ (Array.getElem?_eq_some_iff.1 hv2).1).trans hv2
                      replace hk := hk.step hb1
                      clear hb1
                      refine hK.out _ _ hk (fun _ => ?_)
                      clear hK K
                      try simp only [Act.put, List.setIfInBounds_toArray, List.set_cons_zero, List.set_cons_succ]
                      refine wpAnyH_ready (rs := [7]) (by decide +kernel) (by simp) ?_
                      refine AllReadyH.cons (o := { dst := some 91, op := Op.call { callee := Callee.value (Operand.func 50), args := #[Operand.tmp 88, Operand.tmp 89, Operand.tmp 90], argTypes := #[42, 42, 3] }, type := 42, pos := "ref.go:166", after := #[{ on := 4, ground := Ground.data }, { on := 5, ground := Ground.data }, { on := 6, ground := Ground.data }, { on := 3, ground := Ground.chain }], guard := none }) rfl (fun K hK => ?_) AllReadyH.nil
                      go_simp
                      refine (HN2.out _).mono ?_
                      rintro e1 w7 ⟨rfl, hb1⟩
                      replace hv1 := (hb1.block _ (Array.getElem?_eq_some_iff.1 hv1).1).trans hv1
                      replace hv2 := (hb1.block _ (Array.getElem?_eq_some_iff.1 hv2).1).trans hv2
                      replace hk := hk.step hb1
                      clear hb1
                      refine hK.out _ _ hk (fun _ => ?_)
                      clear hK K
                      try simp only [Act.put, List.setIfInBounds_toArray, List.set_cons_zero, List.set_cons_succ]
                      refine wpAnyH_ready (rs := [8]) (by decide +kernel) (by simp) ?_
                      refine AllReadyH.cons (o := { dst := none, op := Op.store 42 (Operand.tmp 17) (Operand.tmp 87), type := 0, pos := "ref.go:166", after := #[{ on := 3, ground := Ground.data }, { on := 7, ground := Ground.chain }, { on := 0, ground := Ground.phase }, { on := 1, ground := Ground.phase }, { on := 2, ground := Ground.phase }, { on := 3, ground := Ground.phase }, { on := 4, ground := Ground.textOnly Departure.lateStores }, { on := 5, ground := Ground.textOnly Departure.lateStores }, { on := 6, ground := Ground.textOnly Departure.lateStores }, { on := 7, ground := Ground.textOnly Departure.lateStoresUnsure }], guard := none }) rfl (fun K hK => ?_) AllReadyH.nil
                      rw [if_pos (by rfl)]
                      refine wp_store_mid 42 (.tmp 17) (.tmp 87) rfl Va 0 (bv Y).toArray rfl rfl ?htrgc18 HIY.out HOY.out ?_
                      case htrgc18 => exact row_there hv1 hfd.1 hYd.1
                      replace hv1 := row_put hv1 hfd.1 hYd.1
                      replace hv2 := row_keep hv2 (Nat.ne_of_gt hab) (bv Y).toArray.toList
                      replace hk := hk.store hVa hia pfa sfa (bv Y).toArray.toList
                      simp only [Act.put]
                      refine hK.out _ _ hk (fun _ => ?_)
                      clear hK K
                      try simp only [Act.put, List.setIfInBounds_toArray, List.set_cons_zero, List.set_cons_succ]
                      refine wpAnyH_ready (rs := [9]) (by decide +kernel) (by simp) ?_
                      refine AllReadyH.cons (o := { dst := none, op := Op.store 42 (Operand.tmp 19) (Operand.tmp 91), type := 0, pos := "ref.go:166", after := #[{ on := 7, ground := Ground.data }, { on := 8, ground := Ground.chain }, { on := 0, ground := Ground.phase }, { on := 1, ground := Ground.phase }, { on := 2, ground := Ground.phase }, { on := 3, ground := Ground.phase }, { on := 4, ground := Ground.phase }, { on := 5, ground := Ground.phase }, { on := 6, ground := Ground.phase }, { on := 7, ground := Ground.phase }, { on := 8, ground := Ground.phase }], guard := none }) rfl (fun K hK => ?_) AllReadyH.nil
                      rw [if_pos (by rfl)]
                      refine wp_store_mid 42 (.tmp 19) (.tmp 91) rfl Vb 0 (bv Z).toArray rfl rfl ?htrgc19 HIZ.out HOZ.out ?_
                      case htrgc19 => exact row_there hv2 hgd.1 hZd.1
                      replace hv1 := row_keep hv1 (Nat.ne_of_lt hab) (bv Z).toArray.toList
                      replace hv2 := row_put hv2 hgd.1 hZd.1
                      replace hk := hk.store (by omega) hib pfb sfb (bv Z).toArray.toList
                      simp only [Act.put]
                      refine hK.out _ _ hk (fun _ => ?_)
                      clear hK K
                      try simp only [Act.put, List.setIfInBounds_toArray, List.set_cons_zero, List.set_cons_succ]
                      refine wpAnyH_done (by decide +kernel) ?_ _
                      have hGQ := hk.q
                      clear hk
                      go_wp2
                      go_roundw
                      case rel => exact ⟨t + 1, c + 1, k, by have := HT.out; omega, by have := HCK.out; omega, by go_num, by go_num, hGQ, by rw [HNX.out]; exact hv1, by rw [HNX.out]; exact hv2⟩
                      case measure => simp [intOf]
                  · rw [if_pos (by rfl)]
                    refine wp_load_mid 42 (.tmp 19) rfl Vb 0 rfl (bv g) _ (range_row hv2) Tryd.underlying42 rfl hig ?_
                    simp only [Act.put, List.setIfInBounds_toArray, List.set_cons_zero, List.set_cons_succ]
                    refine hK.out _ _ hk (fun _ => ?_)
                    clear hK K
                    try simp only [Act.put, List.setIfInBounds_toArray, List.set_cons_zero, List.set_cons_succ]
                    refine wpAnyH_ready (rs := [1]) (by decide +kernel) (by simp) ?_
                    refine AllReadyH.cons (o := { dst := some 85, op := Op.load 42 (Operand.tmp 17), type := 42, pos := "ref.go:166", after := #[], guard := none }) rfl (fun K hK => ?_) AllReadyH.nil
                    rw [if_pos (by rfl)]
                    refine wp_load_mid 42 (.tmp 17) rfl Va 0 rfl (bv f) _ (range_row hv1) Tryd.underlying42 rfl hif ?_
                    simp only [Act.put, List.setIfInBounds_toArray, List.set_cons_zero, List.set_cons_succ]
                    refine hK.out _ _ hk (fun _ => ?_)
                    clear hK K
                    try simp only [Act.put, List.setIfInBounds_toArray, List.set_cons_zero, List.set_cons_succ]
                    refine wpAnyH_ready (rs := [3]) (by decide +kernel) (by simp) ?_
                    refine AllReadyH.cons (o := { dst := some 87, op := Op.call { callee := Callee.value (Operand.func 50), args := #[Operand.tmp 84, Operand.tmp 85, Operand.tmp 86], argTypes := #[42, 42, 3] }, type := 42, pos := "ref.go:166", after := #[{ on := 0, ground := Ground.data }, { on := 1, ground := Ground.data }, { on := 2, ground := Ground.data }], guard := none }) rfl (fun K hK => ?_) AllReadyH.nil
                    go_simp
                    refine (HN1.out _).mono ?_
                    rintro e1 w3 ⟨rfl, hb1⟩
                    replace hv1 := (hb1.block _ (Array.getElem?_eq_some_iff.1 hv1).1).trans hv1
                    replace hv2 := (hb1.block _ (Array.getElem?_eq_some_iff.1 hv2).1).trans hv2
                    replace hk := hk.step hb1
                    clear hb1
                    refine hK.out _ _ hk (fun _ => ?_)
                    clear hK K
                    try simp only [Act.put, List.setIfInBounds_toArray, List.set_cons_zero, List.set_cons_succ]
                    refine wpAnyH_ready (rs := [7]) (by decide +kernel) (by simp) ?_
                    refine AllReadyH.cons (o := { dst := some 91, op := Op.call { callee := Callee.value (Operand.func 50), args := #[Operand.tmp 88, Operand.tmp 89, Operand.tmp 90], argTypes := #[42, 42, 3] }, type := 42, pos := "ref.go:166", after := #[{ on := 4, ground := Ground.data }, { on := 5, ground := Ground.data }, { on := 6, ground := Ground.data }, { on := 3, ground := Ground.chain }], guard := none }) rfl (fun K hK => ?_) AllReadyH.nil
                    go_simp
                    refine (HN2.out _).mono ?_
                    rintro e1 w7 ⟨rfl, hb1⟩
                    replace hv1 := (hb1.block _ (Array.getElem?_eq_some_iff.1 hv1).1).trans hv1
                    replace hv2 := (hb1.block _ (Array.getElem?_eq_some_iff.1 hv2).1).trans hv2
                    replace hk := hk.step hb1
                    clear hb1
                    refine hK.out _ _ hk (fun _ => ?_)
                    clear hK K
                    try simp only [Act.put, List.setIfInBounds_toArray, List.set_cons_zero, List.set_cons_succ]
                    refine wpAnyH_ready (rs := [8]) (by decide +kernel) (by simp) ?_
                    refine AllReadyH.cons (o := { dst := none, op := Op.store 42 (Operand.tmp 17) (Operand.tmp 87), type := 0, pos := "ref.go:166", after := #[{ on := 3, ground := Ground.data }, { on := 7, ground := Ground.chain }, { on := 0, ground := Ground.phase }, { on := 1, ground := Ground.phase }, { on := 2, ground := Ground.phase }, { on := 3, ground := Ground.phase }, { on := 4, ground := Ground.textOnly Departure.lateStores }, { on := 5, ground := Ground.textOnly Departure.lateStores }, { on := 6, ground := Ground.textOnly Departure.lateStores }, { on := 7, ground := Ground.textOnly Departure.lateStoresUnsure }], guard := none }) rfl (fun K hK => ?_) AllReadyH.nil
                    rw [if_pos (by rfl)]
                    refine wp_store_mid 42 (.tmp 17) (.tmp 87) rfl Va 0 (bv Y).toArray rfl rfl ?htrgc112 HIY.out HOY.out ?_
                    case htrgc112 => exact row_there hv1 hfd.1 hYd.1
                    replace hv1 := row_put hv1 hfd.1 hYd.1
                    replace hv2 := row_keep hv2 (Nat.ne_of_gt hab) (bv Y).toArray.toList
                    replace hk := hk.store hVa hia pfa sfa (bv Y).toArray.toList
                    simp only [Act.put]
                    refine hK.out _ _ hk (fun _ => ?_)
                    clear hK K
                    try simp only [Act.put, List.setIfInBounds_toArray, List.set_cons_zero, List.set_cons_succ]
                    refine wpAnyH_ready (rs := [9]) (by decide +kernel) (by simp) ?_
                    refine AllReadyH.cons (o := { dst := none, op := Op.store 42 (Operand.tmp 19) (Operand.tmp 91), type := 0, pos := "ref.go:166", after := #[{ on := 7, ground := Ground.data }, { on := 8, ground := Ground.chain }, { on := 0, ground := Ground.phase }, { on := 1, ground := Ground.phase }, { on := 2, ground := Ground.phase }, { on := 3, ground := Ground.phase }, { on := 4, ground := Ground.phase }, { on := 5, ground := Ground.phase }, { on := 6, ground := Ground.phase }, { on := 7, ground := Ground.phase }, { on := 8, ground := Ground.phase }], guard := none }) rfl (fun K hK => ?_) AllReadyH.nil
                    rw [if_pos (by rfl)]
                    refine wp_store_mid 42 (.tmp 19) (.tmp 91) rfl Vb 0 (bv Z).toArray rfl rfl ?htrgc113 HIZ.out HOZ.out ?_
                    case htrgc113 => exact row_there hv2 hgd.1 hZd.1
                    replace hv1 := row_keep hv1 (Nat.ne_of_lt hab) (bv Z).toArray.toList
                    replace hv2 := row_put hv2 hgd.1 hZd.1
                    replace hk := hk.store (by omega) hib pfb sfb (bv Z).toArray.toList
                    simp only [Act.put]
                    refine hK.out _ _ hk (fun _ => ?_)
                    clear hK K
                    try simp only [Act.put, List.setIfInBounds_toArray, List.set_cons_zero, List.set_cons_succ]
                    refine wpAnyH_done (by decide +kernel) ?_ _
                    have hGQ := hk.q
                    clear hk
                    go_wp2
                    go_roundw
                    case rel => exact ⟨t + 1, c + 1, k, by have := HT.out; omega, by have := HCK.out; omega, by go_num, by go_num, hGQ, by rw [HNX.out]; exact hv1, by rw [HNX.out]; exact hv2⟩
                    case measure => simp [intOf]
                | false =>
                  obtain ⟨Z, hZ⟩ : ∃ Z, Z = nodeL g r x := ⟨_, rfl⟩
                  have hZd : Dg Z := by rw [hZ]; exact nodeL_dg _ _ _
                  have HN1 : Bx (∀ W, Calls Tryd.prog 50 #[.agg (bv g).toArray, .agg (bv r).toArray, .int .i64 x] W fun e w' => e = .returned (.agg (bv Z).toArray) ∧ Below W.heap.size W w') := ⟨fun W => by rw [hZ]; exact refnode_any g r x W hgd hrd⟩
                  have HNX : Bx (gup x (SL.reverse.take (c + 1)) (R.take (c + 1)) (a0, a0) = (f, Z)) := ⟨by rw [HMB.out, hZ]; rfl⟩
                  obtain ⟨HIZ, HOZ, _⟩ := dgi hZd.1
                  obtain ⟨HIG, _, _⟩ := dgi hgd.1
                  obtain ⟨DG, hDG⟩ : ∃ DG, DG = (bv g).toArray := ⟨_, rfl⟩
                  have HN3 : Bx (∀ W, Calls Tryd.prog 50 #[.agg DG, .agg DR, .int .i64 x] W fun e w' => e = .returned (.agg (bv Z).toArray) ∧ Below W.heap.size W w') := ⟨by rw [hDG, HDR.out]; exact HN1.out⟩
                  rw [← hDG] at HIG
                  have HIR5 : Bx ((Tryd.prog.info? 42).map (·.size) = some DR.size) := ⟨by rw [HDR.out]; exact HIr.out⟩
                  have HVB : Bx (∀ W, Below wr.heap.size wr W → W.heap[Vb]? = some (.cells DG 42 (0, 0))) := ⟨fun W h => by rw [hDG]; exact (h.block _ hlbr).trans hvb⟩
                  clear hZ HMB HN1 hDG
                  go_wp2_with (first
                    | (refine wpList_load_mid rfl 42 (.tmp 76) rfl pb (po + t * 32) rfl (bv r) _ HEL.out Tryd.underlying42 rfl HIR4.out ?_; rw [← HDR.out])
                    | (refine wpList_store_mid rfl 42 (.tmp 21) (.tmp 77) rfl wr.heap.size 0 DR rfl rfl ?htr HINR.out HONR.out ?_; (case htr => exact HTHR.out); have hdv4 := HDVR.out; generalize (wr.alloc (.cells #[.int .u8 0, .int .u8 0, .int .u8 0, .int .u8 0, .int .u8 0, .int .u8 0, .int .u8 0, .int .u8 0, .int .u8 0, .int .u8 0, .int .u8 0, .int .u8 0, .int .u8 0, .int .u8 0, .int .u8 0, .int .u8 0, .int .u8 0, .int .u8 0, .int .u8 0, .int .u8 0, .int .u8 0, .int .u8 0, .int .u8 0, .int .u8 0, .int .u8 0, .int .u8 0, .int .u8 0, .int .u8 0, .int .u8 0, .int .u8 0, .int .u8 0, .int .u8 0] 42)).setCells wr.heap.size 0 DR.toList = w4 at hdv4 ⊢; clear HDVR HTHR; have hGQ4 := hGQ.step hdv4.low; have hcell := HBIT.out _ hGQ4; have HV4 : Bx _ := ⟨HVB.out _ hdv4.low⟩; have HR4 : Bx (w4.heap[wr.heap.size]? = some (.cells DR 42 (0, 0))) := ⟨by rw [HDR.out]; exact hdv4.row⟩)
                    | (refine wpList_load_row rfl 42 (.tmp 19) rfl Vb rfl 42 DG (0, 0) _ HV4.out Tryd.underlying42 rfl HIG.out ?_)
                    | (refine wpList_load_row rfl 42 (.tmp 21) rfl wr.heap.size rfl 42 DR (0, 0) _ HR4.out Tryd.underlying42 rfl HIR5.out ?_))
                  refine (HN3.out _).mono ?_
                  rintro e w5 ⟨rfl, hb5⟩
                  have hv1 := (hb5.block _ hGQ4.lta).trans ((hdv4.low.block _ hlar).trans hva)
                  have hv2 := (hb5.block _ hGQ4.ltb).trans ((hdv4.low.block _ hlbr).trans hvb)
                  have hGQ5 := hGQ4.step hb5
                  have HTH5 : Bx _ := ⟨row_there hv2 hgd.1 hZd.1⟩
                  have HGQ6 : Bx _ := ⟨hGQ5.store (by omega) pfb sfb (bv Z).toArray.toList⟩
                  have HV1 : Bx _ := ⟨row_keep hv1 (Nat.ne_of_lt hab) (bv Z).toArray.toList⟩
                  have HV2 : Bx _ := ⟨row_put hv2 hgd.1 hZd.1⟩
                  clear hb5 hdv4 hva hvb hGQ hGQ4 hGQ5 hv1 hv2 hcell HBIT HEL HVB HV4 HR4 HINR HONR HN3
                  go_wp2_with (refine wpList_store_mid rfl 42 (.tmp 19) (.tmp 95) rfl Vb 0 (bv Z).toArray rfl rfl ?hts HIZ.out HOZ.out ?_; (case hts => exact HTH5.out))
                  go_roundw
                  case rel => exact ⟨t + 1, c + 1, k, by have := HT.out; omega, by have := HCK.out; omega, by go_num, by go_num, HGQ6.out, by rw [HNX.out]; exact HV1.out, by rw [HNX.out]; exact HV2.out⟩
                  case measure => simp [intOf]
          · have hne : ((len : Int) != (SL.length : Int)) = true := by simp; omega
            have HUB : Bx (false = chkG old (j : Int) root (q : Int) P x) := ⟨by rw [HCH2.out, decide_eq_false (show ¬ P.length = SL.length by omega), Bool.false_and]⟩
            clear HCH2 hP hP1 hodW hrtW hownW HDV HTH HOD
            go_wp2
            go_ret
            exact ⟨ret_bool HUB.out, hlowW⟩
        | false =>
          have HCH2 : Bx (chkG old (j : Int) root (q : Int) P x = (decide (P.length = SL.length + 1) && (decide ((gup x SL.reverse (P.drop 1) (P.getD 0 [], P.getD 0 [])).1 = old) && decide ((gup x SL.reverse (P.drop 1) (P.getD 0 [], P.getD 0 [])).2 = root)))) := ⟨by
            have e1 : need true SL = SL.length + 1 := by unfold need; rw [hgw]; rfl
            have e2 : gres x true SL P old = gup x SL.reverse (P.drop 1) (P.getD 0 [], P.getD 0 []) := by unfold gres; rw [hgw]; rfl
            rw [HCH.out, e1, e2]⟩
          clear HCH hgw
          by_cases hse : len = SL.length + 1
          · have hne : ((len : Int) != (SL.length : Int) + 1) = false := by rw [hse]; simp
            have HU : Bx (chkG old (j : Int) root (q : Int) P x = (decide ((gup x SL.reverse (P.drop 1) (P.getD 0 [], P.getD 0 [])).1 = old) && decide ((gup x SL.reverse (P.drop 1) (P.getD 0 [], P.getD 0 [])).2 = root))) := ⟨by rw [HCH2.out, decide_eq_true (show P.length = SL.length + 1 by omega), Bool.true_and]⟩
            have HLE : Bx (len = SL.length + 1) := ⟨hse⟩
            have HRL : Bx ((P.drop 1).length = SL.length) := ⟨by rw [List.length_drop]; omega⟩
            have HRG : Bx (∀ c : Nat, (P.drop 1).getD c [] = P.getD (c + 1) []) := ⟨fun c => by rw [List.getD_eq_getElem?_getD, List.getElem?_drop, Nat.add_comm, ← List.getD_eq_getElem?_getD]⟩
            have hl0 : (0 : Int) < (len : Int) := by omega
            have hl0' : 0 < len := by omega
            clear HCH2 hse
            obtain ⟨pb, po, rfl, hplt, hpc⟩ := hP1.spot hl0'
            have ha0 : Dg (P.getD 0 []) := hP1.dig.getD 0 (by omega)
            have hr0 := hpc 0 hl0'
            rw [Nat.mul_zero, Nat.add_zero] at hr0
            generalize P.drop 1 = R at HU HRL HRG
            generalize P.getD 0 [] = a0 at HU ha0 hr0
            obtain ⟨DP, hDP⟩ : ∃ DP, DP = (bv a0).toArray := ⟨_, rfl⟩
            have HDP : Bx (DP = (bv a0).toArray) := ⟨hDP⟩
            obtain ⟨HIP0, HOP0, hip⟩ := dgi ha0.1
            have HIPL : Bx _ := ⟨hip⟩
            have HIP : Bx ((Tryd.prog.info? 42).map (·.size) = some DP.size) := ⟨by rw [hDP]; exact HIP0.out⟩
            have HOP : Bx (DP.all (·.oneCell') = true) := ⟨by rw [hDP]; exact HOP0.out⟩
            have HRNG : Bx (∀ W, Below wo.heap.size wo W → W.rangeAt pb po (bv a0)) := ⟨fun W h => range_below hr0 h hplt⟩
            clear hDP HIP0 HOP0 hip hpc hr0 hlr
            go_wp2_with (first
              | (refine wpList_load_row rfl 42 (.tmp 6) rfl w.heap.size rfl 42 DO (0, 0) _ HOD.out Tryd.underlying42 rfl HINF.out ?_)
              | (refine wpList_store_mid rfl 42 (.tmp 17) (.tmp 60) rfl wo.heap.size 0 DO rfl rfl ?ht HINF.out HONE.out ?_; (case ht => exact HTH.out); have hdv2 := HDV.out; generalize (wo.alloc (.cells #[.int .u8 0, .int .u8 0, .int .u8 0, .int .u8 0, .int .u8 0, .int .u8 0, .int .u8 0, .int .u8 0, .int .u8 0, .int .u8 0, .int .u8 0, .int .u8 0, .int .u8 0, .int .u8 0, .int .u8 0, .int .u8 0, .int .u8 0, .int .u8 0, .int .u8 0, .int .u8 0, .int .u8 0, .int .u8 0, .int .u8 0, .int .u8 0, .int .u8 0, .int .u8 0, .int .u8 0, .int .u8 0, .int .u8 0, .int .u8 0, .int .u8 0, .int .u8 0] 42)).setCells wo.heap.size 0 DO.toList = w1 at hdv2 ⊢; clear HDV HTH; have HEL0 : Bx _ := ⟨HRNG.out _ hdv2.low⟩; have HTH1 : Bx (w1.there wo.heap.size 0 DP.size) := ⟨by rw [HDP.out]; exact row_there hdv2.row hold.1 ha0.1⟩)
              | (refine wpList_load_mid rfl 42 (.tmp 64) rfl pb po rfl (bv a0) _ HEL0.out Tryd.underlying42 rfl HIPL.out ?_; rw [← HDP.out])
              | (refine wpList_store_mid rfl 42 (.tmp 17) (.tmp 65) rfl wo.heap.size 0 DP rfl rfl ?ht3 HIP.out HOP.out ?_; (case ht3 => exact HTH1.out); have hb2 : Below wo.heap.size wo (w1.setCells wo.heap.size 0 DP.toList) := below_setCells hdv2.low _ (Nat.le_refl _) _ 0; have hva2 : (w1.setCells wo.heap.size 0 DP.toList).heap[wo.heap.size]? = some (.cells (bv a0).toArray 42 (0, 0)) := (by rw [HDP.out]; exact row_put hdv2.row hold.1 ha0.1); generalize w1.setCells wo.heap.size 0 DP.toList = w2 at hb2 hva2 ⊢; clear hdv2 HEL0 HTH1; obtain ⟨hdvb, hthb, _, _⟩ := dig_var w2 a0 ha0.1 DP HDP.out; have HDVB : Bx _ := ⟨hdvb⟩; have HTHB : Bx _ := ⟨hthb⟩; have HVA : Bx (w2.heap[wo.heap.size]? = some (.cells DP 42 (0, 0))) := ⟨by rw [HDP.out]; exact hva2⟩; clear hdvb hthb)
              | (refine wpList_load_row rfl 42 (.tmp 17) rfl wo.heap.size rfl 42 DP (0, 0) _ HVA.out Tryd.underlying42 rfl HIP.out ?_)
              | (refine wpList_store_mid rfl 42 (.tmp 19) (.tmp 66) rfl w2.heap.size 0 DP rfl rfl ?ht2 HIP.out HOP.out ?_; (case ht2 => exact HTHB.out); have hdv3 := HDVB.out; generalize (w2.alloc (.cells #[.int .u8 0, .int .u8 0, .int .u8 0, .int .u8 0, .int .u8 0, .int .u8 0, .int .u8 0, .int .u8 0, .int .u8 0, .int .u8 0, .int .u8 0, .int .u8 0, .int .u8 0, .int .u8 0, .int .u8 0, .int .u8 0, .int .u8 0, .int .u8 0, .int .u8 0, .int .u8 0, .int .u8 0, .int .u8 0, .int .u8 0, .int .u8 0, .int .u8 0, .int .u8 0, .int .u8 0, .int .u8 0, .int .u8 0, .int .u8 0, .int .u8 0, .int .u8 0] 42)).setCells w2.heap.size 0 DP.toList = w3 at hdv3 ⊢; clear HDVB HTHB))
            have hlt2 : wo.heap.size < w2.heap.size := (Array.getElem?_eq_some_iff.1 hva2).1
            clear HVA HOD HINF HONE HDO hP1 HRNG HDP HIP HOP HIPL
            have hVa : w.heap.size + 2 ≤ wo.heap.size := hwo2
            have hab : wo.heap.size < w2.heap.size := hlt2
            have pfa : 0 < len → ∀ p, (some (⟨pb, po, none⟩ : Addr)) = some p → p.block ≠ wo.heap.size := hP.old (by omega)
            have pfb : 0 < len → ∀ p, (some (⟨pb, po, none⟩ : Addr)) = some p → p.block ≠ w2.heap.size := hP.old (by omega)
            have sfa : ∀ k, (Value.slice sa SL.length sc).ownBlock = some k → k ≠ wo.heap.size := fun k hk => by have := (sfar k hk).2; omega
            have sfb : ∀ k, (Value.slice sa SL.length sc).ownBlock = some k → k ≠ w2.heap.size := fun k hk => by have := (sfar k hk).2; omega
            have hGQ : GQ wo.heap.size w2.heap.size old root (some (⟨pb, po, none⟩ : Addr)) len cap P w0.heap.size (.slice sa SL.length sc) SL w w3 := gq_start hlowW hwo2 hodW hrtW hP hownW hb2 hlt2 hdv3
            have hva := (hdv3.low.block _ hlt2).trans hva2
            have hvb := hdv3.row
            clear hlowW hodW hrtW hb2 hdv3 hva2 hP hownW hlt2 hwo2 sfar
            generalize wo.heap.size = Va at hVa hab pfa sfa hGQ hva ⊢
            generalize w2.heap.size = Vb at hab pfb sfb hGQ hvb ⊢
            go_loopw [18, 20] (fun vt vi wr => ∃ t c k : Nat, t = c + 1 ∧ c + k = SL.length ∧ vt = .int .i64 t ∧ vi = .int .i64 ((k : Int) - 1) ∧ GQ Va Vb old root (some (⟨pb, po, none⟩ : Addr)) len cap P w0.heap.size (.slice sa SL.length sc) SL w wr ∧ wr.heap[Va]? = some (.cells (bv (gup x (SL.reverse.take c) (R.take c) (a0, a0)).1).toArray 42 (0, 0)) ∧ wr.heap[Vb]? = some (.cells (bv (gup x (SL.reverse.take c) (R.take c) (a0, a0)).2).toArray 42 (0, 0))) (fun _ vi _ => (intOf vi + 1).toNat)
            case atStart => exact ⟨1, 0, SL.length, by omega, by omega, rfl, by first | rfl | go_num, hGQ, hva, hvb⟩
            case round =>
              clear hGQ hva hvb
              obtain ⟨t, c, k, ht, hck, rfl, hvi, hGQ, hva, hvb⟩ := hrel
              obtain ⟨hfd, hgd⟩ := gup_dg x (SL.reverse.take c) (R.take c) (a0, a0) ha0 ha0
              cases k with
              | zero =>
                replace hvi : u20 = Value.int .i64 (-1) := hvi
                subst hvi
                have HE2 : Bx (SL.reverse.take c = SL.reverse ∧ R.take c = R) := ⟨List.take_of_length_le (by rw [List.length_reverse]; omega), List.take_of_length_le (by rw [HRL.out]; omega)⟩
                rw [HE2.out.1, HE2.out.2] at hva hvb hfd hgd
                have HUV := HU.out
                generalize gup x SL.reverse R (a0, a0) = fg at hva hvb hfd hgd HUV
                obtain ⟨f, g⟩ := fg
                replace hva : _ = some (Obj.cells (bv f).toArray 42 (0, 0)) := hva
                replace hvb : _ = some (Obj.cells (bv g).toArray 42 (0, 0)) := hvb
                replace hfd : Dg f := hfd
                replace hgd : Dg g := hgd
                have hcmp1 := dig_cmp f old hfd.1 hold.1
                have hcmp2 := dig_cmp g root hgd.1 hr.1
                obtain ⟨HIF, _, _⟩ := dgi hfd.1
                obtain ⟨HIG, _, _⟩ := dgi hgd.1
                have HC1 : Bx (decide (f = old) = false → false = chkG old (j : Int) root (q : Int) P x) := ⟨fun h => by
                  rw [HUV]
                  show false = (decide (f = old) && decide (g = root))
                  rw [h, Bool.false_and]⟩
                have HC2 : Bx (decide (f = old) = true → decide (g = root) = chkG old (j : Int) root (q : Int) P x) := ⟨fun h => by
                  rw [HUV]
                  show decide (g = root) = (decide (f = old) && decide (g = root))
                  rw [h, Bool.true_and]⟩
                have HF2 : Bx _ := ⟨hva⟩
                have HG2 : Bx _ := ⟨hvb⟩
                have HO2 : Bx _ := ⟨hGQ.od⟩
                have HR2 : Bx _ := ⟨hGQ.rt⟩
                have hlowE := hGQ.low
                generalize decide (f = old) = c1 at hcmp1 HC1 HC2
                generalize decide (g = root) = c2 at hcmp2 HC2
                clear HUV HU HE2 hGQ hva hvb hck ht
                obtain ⟨HIO3, _, _⟩ := dgi hold.1
                obtain ⟨HIR3, _, _⟩ := dgi hr.1
                generalize (bv f).toArray = DF at hcmp1 HF2 HIF
                generalize (bv g).toArray = DG at hcmp2 HG2 HIG
                generalize (bv old).toArray = DO3 at hcmp1 HO2 HIO3
                generalize (bv root).toArray = DT3 at hcmp2 HR2 HIR3
                cases c1 with
                | true =>
                  have HUB : Bx _ := ⟨HC2.out rfl⟩
                  clear HC1 HC2
                  go_wp2_with (first
                    | (refine wpList_load_row rfl 42 (.tmp 17) rfl Va rfl 42 DF (0, 0) _ HF2.out Tryd.underlying42 rfl HIF.out ?_)
                    | (refine wpList_load_row rfl 42 (.tmp 6) rfl w.heap.size rfl 42 DO3 (0, 0) _ HO2.out Tryd.underlying42 rfl HIO3.out ?_)
                    | (refine wpList_load_guarded (b := Vb) (D := DG) rfl (.tmp 19) rfl rfl HG2.out HIG.out ?_)
                    | (refine wpList_load_guarded (b := w.heap.size + 1) (D := DT3) rfl (.tmp 8) rfl rfl HR2.out HIR3.out ?_))
                  go_ret
                  exact ⟨ret_bool HUB.out, hlowE⟩
                | false =>
                  have HUB : Bx _ := ⟨HC1.out rfl⟩
                  clear HC1 HC2
                  go_wp2_with (first
                    | (refine wpList_load_row rfl 42 (.tmp 17) rfl Va rfl 42 DF (0, 0) _ HF2.out Tryd.underlying42 rfl HIF.out ?_)
                    | (refine wpList_load_row rfl 42 (.tmp 6) rfl w.heap.size rfl 42 DO3 (0, 0) _ HO2.out Tryd.underlying42 rfl HIO3.out ?_))
                  go_ret
                  exact ⟨ret_bool HUB.out, hlowE⟩
              | succ k =>
                replace hvi : u20 = Value.int .i64 (k : Int) := by rw [hvi]; congr 1; omega
                subst hvi
                have HM := gup_more x (a0, a0) R c k HRL.out hck
                have hkl : k < SL.length := by omega
                have htl : t < len := by have := HLE.out; omega
                have hkl' : (k : Int) < (SL.length : Int) := by omega
                have htl' : (t : Int) < (len : Int) := by omega
                have HT : Bx (t = c + 1) := ⟨ht⟩
                have HCK : Bx (c + (k + 1) = SL.length) := ⟨hck⟩
                have htm : (t : Int) ≤ 9223372036854775800 := by omega
                rw [HRG.out c, show P.getD (c + 1) [] = P.getD t [] from by rw [ht]] at HM
                clear ht hck
                skip
                obtain ⟨sg, sc2, hsv, _, _⟩ := owns_form hGQ.stp (by omega)
                cases hsv
                have hrd := hGQ.pth.dig.getD t (by rw [hGQ.pth.len_eq]; exact htl)
                have HEL : Bx _ := ⟨hGQ.elem htl⟩
                have HBIT : Bx (∀ W, GQ Va Vb old root (some ⟨pb, po, none⟩) len cap P w0.heap.size (.slice (some ⟨sg, 0, none⟩) SL.length sc) SL w W → W.cell? ⟨sg, k, none⟩ = some (.bool (SL.getD k false))) := ⟨fun W h => h.bit hkl⟩
                generalize P.getD t [] = r at HM hrd HEL
                generalize SL.getD k false = bit at HM HBIT
                generalize hfg : gup x (SL.reverse.take c) (R.take c) (a0, a0) = fg at hva hvb hfd hgd HM
                obtain ⟨f, g⟩ := fg
                replace hva : _ = some (Obj.cells (bv f).toArray 42 (0, 0)) := hva
                replace hvb : _ = some (Obj.cells (bv g).toArray 42 (0, 0)) := hvb
                replace hfd : Dg f := hfd
                replace hgd : Dg g := hgd
                clear hfg
                have HMB : Bx _ := ⟨HM⟩
                obtain ⟨DR, hDR⟩ : ∃ DR, DR = (bv r).toArray := ⟨_, rfl⟩
                obtain ⟨hdv, hth, hinf, hone⟩ := dig_var wr r hrd.1 DR hDR
                have HTHR : Bx _ := ⟨hth⟩
                have HDVR : Bx _ := ⟨hdv⟩
                have HINR : Bx _ := ⟨hinf⟩
                have HONR : Bx _ := ⟨hone⟩
                have HDR : Bx (DR = (bv r).toArray) := ⟨hDR⟩
                obtain ⟨HIr, _, hir⟩ := dgi hrd.1
                have HIR4 : Bx _ := ⟨hir⟩
                have hlar := hGQ.lta
                have hlbr := hGQ.ltb
                clear HM hdv hth hinf hone hDR hir
                cases bit with
                | true =>
                  go_wp2_with (first
                    | (refine wpList_load_mid rfl 42 (.tmp 76) rfl pb (po + t * 32) rfl (bv r) _ HEL.out Tryd.underlying42 rfl HIR4.out ?_; rw [← HDR.out])
                    | (refine wpList_store_mid rfl 42 (.tmp 21) (.tmp 77) rfl wr.heap.size 0 DR rfl rfl ?htr HINR.out HONR.out ?_; (case htr => exact HTHR.out); have hdv4 := HDVR.out; generalize (wr.alloc (.cells #[.int .u8 0, .int .u8 0, .int .u8 0, .int .u8 0, .int .u8 0, .int .u8 0, .int .u8 0, .int .u8 0, .int .u8 0, .int .u8 0, .int .u8 0, .int .u8 0, .int .u8 0, .int .u8 0, .int .u8 0, .int .u8 0, .int .u8 0, .int .u8 0, .int .u8 0, .int .u8 0, .int .u8 0, .int .u8 0, .int .u8 0, .int .u8 0, .int .u8 0, .int .u8 0, .int .u8 0, .int .u8 0, .int .u8 0, .int .u8 0, .int .u8 0, .int .u8 0] 42)).setCells wr.heap.size 0 DR.toList = w4 at hdv4 ⊢; clear HDVR HTHR; have hGQ4 := hGQ.step hdv4.low; have hcell := HBIT.out _ hGQ4))
                  have hk : GRs wr.heap.size r Va Vb old root (some ⟨pb, po, none⟩) len cap P w0.heap.size (.slice (some ⟨sg, 0, none⟩) SL.length sc) SL w (w4.drewN 1) := GRs.drewN ⟨hGQ4, hdv4.row⟩ 1
                  have hv1 : (w4.drewN 1).heap[Va]? = some (.cells (bv f).toArray 42 (0, 0)) := (hdv4.low.block _ hlar).trans hva
                  have hv2 : (w4.drewN 1).heap[Vb]? = some (.cells (bv g).toArray 42 (0, 0)) := (hdv4.low.block _ hlbr).trans hvb
                  clear hva hvb hGQ hGQ4 hdv4 hcell HBIT HEL HINR HONR
                  have hia := Nat.ne_of_gt hlar
                  have hib := Nat.ne_of_gt hlbr
                  generalize wr.heap.size = VR at hk hlar hlbr hia hib ⊢
                  obtain ⟨Y, hY⟩ : ∃ Y, Y = nodeL r f x := ⟨_, rfl⟩
                  obtain ⟨Z, hZ⟩ : ∃ Z, Z = nodeL r g x := ⟨_, rfl⟩
                  have hYd : Dg Y := by rw [hY]; exact nodeL_dg _ _ _
                  have hZd : Dg Z := by rw [hZ]; exact nodeL_dg _ _ _
                  have HN1 : Bx (∀ W, Calls Tryd.prog 50 #[.agg (bv r).toArray, .agg (bv f).toArray, .int .i64 x] W fun e w' => e = .returned (.agg (bv Y).toArray) ∧ Below W.heap.size W w') := ⟨fun W => by rw [hY]; exact refnode_any r f x W hrd hfd⟩
                  have HN2 : Bx (∀ W, Calls Tryd.prog 50 #[.agg (bv r).toArray, .agg (bv g).toArray, .int .i64 x] W fun e w' => e = .returned (.agg (bv Z).toArray) ∧ Below W.heap.size W w') := ⟨fun W => by rw [hZ]; exact refnode_any r g x W hrd hgd⟩
                  have HNX : Bx (gup x (SL.reverse.take (c + 1)) (R.take (c + 1)) (a0, a0) = (Y, Z)) := ⟨by rw [HMB.out, hY, hZ]; rfl⟩
                  obtain ⟨HIY, HOY, _⟩ := dgi hYd.1
                  obtain ⟨HIZ, HOZ, _⟩ := dgi hZd.1
                  obtain ⟨_, _, hir⟩ := dgi hrd.1
                  obtain ⟨_, _, hif⟩ := dgi hfd.1
                  obtain ⟨_, _, hig⟩ := dgi hgd.1
                  clear hY hZ HMB HDR HIr HIR4
                  refine wp_region_held_drew (S := fun W => GRs VR r Va Vb old root (some ⟨pb, po, none⟩) len cap P w0.heap.size (.slice (some ⟨sg, 0, none⟩) SL.length sc) SL w W) (by kernel_rfl) hk (fun _ => ?_)
                  refine wpAnyH_take (i := 0) (oi := { dst := some 84, op := Op.load 42 (Operand.tmp 21), type := 42, pos := "ref.go:166", after := #[], guard := none }) (v := .agg (bv r).toArray) rfl (by kernel_rfl) (by kernel_rfl) (by kernel_rfl) (fun _ _ _ h => h) (yieldsIf_load_mid (by rfl) 42 (.tmp 21) rfl VR 0 rfl (bv r) _ (fun W h => range_row h.rr) Tryd.underlying42 rfl hir) hk ?_
                  simp only [Act.put, List.setIfInBounds_toArray, List.set_cons_zero, List.set_cons_succ]
                  refine wpAnyH_take (i := 2) (oi := { dst := some 86, op := Op.move (Operand.tmp 5), type := 3, pos := "ref.go:166", after := #[], guard := none }) (v := ?vrgc21) rfl (by kernel_rfl) (by kernel_rfl) (by kernel_rfl) (fun _ _ _ h => h) (Or.inl ⟨by rfl, ?yrgc21⟩) hk ?rrgc21
                  case yrgc21 => (intro w hSw; (try dsimp only at hSw); go_simp; first | done | with_reducible rfl)
                  simp only [Act.put, List.setIfInBounds_toArray, List.set_cons_zero, List.set_cons_succ]
                  refine wpAnyH_take (i := 4) (oi := { dst := some 88, op := Op.load 42 (Operand.tmp 21), type := 42, pos := "ref.go:166", after := #[], guard := none }) (v := .agg (bv r).toArray) rfl (by kernel_rfl) (by kernel_rfl) (by kernel_rfl) (fun _ _ _ h => h) (yieldsIf_load_mid (by rfl) 42 (.tmp 21) rfl VR 0 rfl (bv r) _ (fun W h => range_row h.rr) Tryd.underlying42 rfl hir) hk ?_
                  simp only [Act.put, List.setIfInBounds_toArray, List.set_cons_zero, List.set_cons_succ]
                  refine wpAnyH_take (i := 6) (oi := { dst := some 90, op := Op.move (Operand.tmp 5), type := 3, pos := "ref.go:166", after := #[], guard := none }) (v := ?vrgc22) rfl (by kernel_rfl) (by kernel_rfl) (by kernel_rfl) (fun _ _ _ h => h) (Or.inl ⟨by rfl, ?yrgc22⟩) hk ?rrgc22
                  case yrgc22 => (intro w hSw; (try dsimp only at hSw); go_simp; first | done | with_reducible rfl)
                  simp only [Act.put, List.setIfInBounds_toArray, List.set_cons_zero, List.set_cons_succ]
                  refine wpAnyH_ready (rs := [1, 5]) (by decide +kernel) (by simp) ?_
                  refine (AllReadyH.cons (o := { dst := some 85, op := Op.load 42 (Operand.tmp 17), type := 42, pos := "ref.go:166", after := #[], guard := none }) rfl (fun K hK => ?_) (AllReadyH.cons (o := { dst := some 89, op := Op.load 42 (Operand.tmp 19), type := 42, pos := "ref.go:166", after := #[], guard := none }) rfl (fun K hK => ?_) AllReadyH.nil))
                  · rw [if_pos (by rfl)]
                    refine wp_load_mid 42 (.tmp 17) rfl Va 0 rfl (bv f) _ (range_row hv1) Tryd.underlying42 rfl hif ?_
                    simp only [Act.put, List.setIfInBounds_toArray, List.set_cons_zero, List.set_cons_succ]
                    refine hK.out _ _ hk (fun _ => ?_)
                    clear hK K
                    try simp only [Act.put, List.setIfInBounds_toArray, List.set_cons_zero, List.set_cons_succ]
                    refine wpAnyH_ready (rs := [3, 5]) (by decide +kernel) (by simp) ?_
                    refine (AllReadyH.cons (o := { dst := some 87, op := Op.call { callee := Callee.value (Operand.func 50), args := #[Operand.tmp 84, Operand.tmp 85, Operand.tmp 86], argTypes := #[42, 42, 3] }, type := 42, pos := "ref.go:166", after := #[{ on := 0, ground := Ground.data }, { on := 1, ground := Ground.data }, { on := 2, ground := Ground.data }], guard := none }) rfl (fun K hK => ?_) (AllReadyH.cons (o := { dst := some 89, op := Op.load 42 (Operand.tmp 19), type := 42, pos := "ref.go:166", after := #[], guard := none }) rfl (fun K hK => ?_) AllReadyH.nil))
                    · go_simp
                      refine (HN1.out _).mono ?_
                      rintro e1 w3 ⟨rfl, hb1⟩
                      replace hv1 := (hb1.block _ (Array.getElem?_eq_some_iff.1 hv1).1).trans hv1
                      replace hv2 := (hb1.block _ (Array.getElem?_eq_some_iff.1 hv2).1).trans hv2
                      replace hk := hk.step hb1
                      clear hb1
                      refine hK.out _ _ hk (fun _ => ?_)
                      clear hK K
                      try simp only [Act.put, List.setIfInBounds_toArray, List.set_cons_zero, List.set_cons_succ]
                      refine wpAnyH_ready (rs := [5]) (by decide +kernel) (by simp) ?_
                      refine AllReadyH.cons (o := { dst := some 89, op := Op.load 42 (Operand.tmp 19), type := 42, pos := "ref.go:166", after := #[], guard := none }) rfl (fun K hK => ?_) AllReadyH.nil
                      rw [if_pos (by rfl)]
                      refine wp_load_mid 42 (.tmp 19) rfl Vb 0 rfl (bv g) _ (range_row hv2) Tryd.underlying42 rfl hig ?_
                      simp only [Act.put, List.setIfInBounds_toArray, List.set_cons_zero, List.set_cons_succ]
                      refine hK.out _ _ hk (fun _ => ?_)
                      clear hK K
                      try simp only [Act.put, List.setIfInBounds_toArray, List.set_cons_zero, List.set_cons_succ]
                      refine wpAnyH_ready (rs := [7]) (by decide +kernel) (by simp) ?_
                      refine AllReadyH.cons (o := { dst := some 91, op := Op.call { callee := Callee.value (Operand.func 50), args := #[Operand.tmp 88, Operand.tmp 89, Operand.tmp 90], argTypes := #[42, 42, 3] }, type := 42, pos := "ref.go:166", after := #[{ on := 4, ground := Ground.data }, { on := 5, ground := Ground.data }, { on := 6, ground := Ground.data }, { on := 3, ground := Ground.chain }], guard := none }) rfl (fun K hK => ?_) AllReadyH.nil
                      go_simp
                      refine (HN2.out _).mono ?_
                      rintro e1 w7 ⟨rfl, hb1⟩
                      replace hv1 := (hb1.block _ (Array.getElem?_eq_some_iff.1 hv1).1).trans hv1
                      replace hv2 := (hb1.block _ (Array.getElem?_eq_some_iff.1 hv2).1).trans hv2
                      replace hk := hk.step hb1
                      clear hb1
                      refine hK.out _ _ hk (fun _ => ?_)
                      clear hK K
                      try simp only [Act.put, List.setIfInBounds_toArray, List.set_cons_zero, List.set_cons_succ]
                      refine wpAnyH_ready (rs := [8]) (by decide +kernel) (by simp) ?_
                      refine AllReadyH.cons (o := { dst := none, op := Op.store 42 (Operand.tmp 17) (Operand.tmp 87), type := 0, pos := "ref.go:166", after := #[{ on := 3, ground := Ground.data }, { on := 7, ground := Ground.chain }, { on := 0, ground := Ground.phase }, { on := 1, ground := Ground.phase }, { on := 2, ground := Ground.phase }, { on := 3, ground := Ground.phase }, { on := 4, ground := Ground.textOnly Departure.lateStores }, { on := 5, ground := Ground.textOnly Departure.lateStores }, { on := 6, ground := Ground.textOnly Departure.lateStores }, { on := 7, ground := Ground.textOnly Departure.lateStoresUnsure }], guard := none }) rfl (fun K hK => ?_) AllReadyH.nil
                      rw [if_pos (by rfl)]
                      refine wp_store_mid 42 (.tmp 17) (.tmp 87) rfl Va 0 (bv Y).toArray rfl rfl ?htrgc25 HIY.out HOY.out ?_
                      case htrgc25 => exact row_there hv1 hfd.1 hYd.1
                      replace hv1 := row_put hv1 hfd.1 hYd.1
                      replace hv2 := row_keep hv2 (Nat.ne_of_gt hab) (bv Y).toArray.toList
                      replace hk := hk.store hVa hia pfa sfa (bv Y).toArray.toList
                      simp only [Act.put]
                      refine hK.out _ _ hk (fun _ => ?_)
                      clear hK K
                      try simp only [Act.put, List.setIfInBounds_toArray, List.set_cons_zero, List.set_cons_succ]
                      refine wpAnyH_ready (rs := [9]) (by decide +kernel) (by simp) ?_
                      refine AllReadyH.cons (o := { dst := none, op := Op.store 42 (Operand.tmp 19) (Operand.tmp 91), type := 0, pos := "ref.go:166", after := #[{ on := 7, ground := Ground.data }, { on := 8, ground := Ground.chain }, { on := 0, ground := Ground.phase }, { on := 1, ground := Ground.phase }, { on := 2, ground := Ground.phase }, { on := 3, ground := Ground.phase }, { on := 4, ground := Ground.phase }, { on := 5, ground := Ground.phase }, { on := 6, ground := Ground.phase }, { on := 7, ground := Ground.phase }, { on := 8, ground := Ground.phase }], guard := none }) rfl (fun K hK => ?_) AllReadyH.nil
                      rw [if_pos (by rfl)]
                      refine wp_store_mid 42 (.tmp 19) (.tmp 91) rfl Vb 0 (bv Z).toArray rfl rfl ?htrgc26 HIZ.out HOZ.out ?_
                      case htrgc26 => exact row_there hv2 hgd.1 hZd.1
                      replace hv1 := row_keep hv1 (Nat.ne_of_lt hab) (bv Z).toArray.toList
                      replace hv2 := row_put hv2 hgd.1 hZd.1
                      replace hk := hk.store (by omega) hib pfb sfb (bv Z).toArray.toList
                      simp only [Act.put]
                      refine hK.out _ _ hk (fun _ => ?_)
                      clear hK K
                      try simp only [Act.put, List.setIfInBounds_toArray, List.set_cons_zero, List.set_cons_succ]
                      refine wpAnyH_done (by decide +kernel) ?_ _
                      have hGQ := hk.q
                      clear hk
                      go_wp2
                      go_roundw
                      case rel => exact ⟨t + 1, c + 1, k, by have := HT.out; omega, by have := HCK.out; omega, by go_num, by go_num, hGQ, by rw [HNX.out]; exact hv1, by rw [HNX.out]; exact hv2⟩
                      case measure => simp [intOf]
                    · rw [if_pos (by rfl)]
                      refine wp_load_mid 42 (.tmp 19) rfl Vb 0 rfl (bv g) _ (range_row hv2) Tryd.underlying42 rfl hig ?_
                      simp only [Act.put, List.setIfInBounds_toArray, List.set_cons_zero, List.set_cons_succ]
                      refine hK.out _ _ hk (fun _ => ?_)
                      clear hK K
                      try simp only [Act.put, List.setIfInBounds_toArray, List.set_cons_zero, List.set_cons_succ]
                      refine wpAnyH_ready (rs := [3]) (by decide +kernel) (by simp) ?_
                      refine AllReadyH.cons (o := { dst := some 87, op := Op.call { callee := Callee.value (Operand.func 50), args := #[Operand.tmp 84, Operand.tmp 85, Operand.tmp 86], argTypes := #[42, 42, 3] }, type := 42, pos := "ref.go:166", after := #[{ on := 0, ground := Ground.data }, { on := 1, ground := Ground.data }, { on := 2, ground := Ground.data }], guard := none }) rfl (fun K hK => ?_) AllReadyH.nil
                      go_simp
                      refine (HN1.out _).mono ?_
                      rintro e1 w3 ⟨rfl, hb1⟩
                      replace hv1 := (hb1.block _ (Array.getElem?_eq_some_iff.1 hv1).1).trans hv1
                      replace hv2 := (hb1.block _ (Array.getElem?_eq_some_iff.1 hv2).1).trans hv2
                      replace hk := hk.step hb1
                      clear hb1
                      refine hK.out _ _ hk (fun _ => ?_)
                      clear hK K
                      try simp only [Act.put, List.setIfInBounds_toArray, List.set_cons_zero, List.set_cons_succ]
                      refine wpAnyH_ready (rs := [7]) (by decide +kernel) (by simp) ?_
                      refine AllReadyH.cons (o := { dst := some 91, op := Op.call { callee := Callee.value (Operand.func 50), args := #[Operand.tmp 88, Operand.tmp 89, Operand.tmp 90], argTypes := #[42, 42, 3] }, type := 42, pos := "ref.go:166", after := #[{ on := 4, ground := Ground.data }, { on := 5, ground := Ground.data }, { on := 6, ground := Ground.data }, { on := 3, ground := Ground.chain }], guard := none }) rfl (fun K hK => ?_) AllReadyH.nil
                      go_simp
                      refine (HN2.out _).mono ?_
                      rintro e1 w7 ⟨rfl, hb1⟩
                      replace hv1 := (hb1.block _ (Array.getElem?_eq_some_iff.1 hv1).1).trans hv1
                      replace hv2 := (hb1.block _ (Array.getElem?_eq_some_iff.1 hv2).1).trans hv2
                      replace hk := hk.step hb1
                      clear hb1
                      refine hK.out _ _ hk (fun _ => ?_)
                      clear hK K
                      try simp only [Act.put, List.setIfInBounds_toArray, List.set_cons_zero, List.set_cons_succ]
                      refine wpAnyH_ready (rs := [8]) (by decide +kernel) (by simp) ?_
                      refine AllReadyH.cons (o := { dst := none, op := Op.store 42 (Operand.tmp 17) (Operand.tmp 87), type := 0, pos := "ref.go:166", after := #[{ on := 3, ground := Ground.data }, { on := 7, ground := Ground.chain }, { on := 0, ground := Ground.phase }, { on := 1, ground := Ground.phase }, { on := 2, ground := Ground.phase }, { on := 3, ground := Ground.phase }, { on := 4, ground := Ground.textOnly Departure.lateStores }, { on := 5, ground := Ground.textOnly Departure.lateStores }, { on := 6, ground := Ground.textOnly Departure.lateStores }, { on := 7, ground := Ground.textOnly Departure.lateStoresUnsure }], guard := none }) rfl (fun K hK => ?_) AllReadyH.nil
                      rw [if_pos (by rfl)]
                      refine wp_store_mid 42 (.tmp 17) (.tmp 87) rfl Va 0 (bv Y).toArray rfl rfl ?htrgc28 HIY.out HOY.out ?_
                      case htrgc28 => exact row_there hv1 hfd.1 hYd.1
                      replace hv1 := row_put hv1 hfd.1 hYd.1
                      replace hv2 := row_keep hv2 (Nat.ne_of_gt hab) (bv Y).toArray.toList
                      replace hk := hk.store hVa hia pfa sfa (bv Y).toArray.toList
                      simp only [Act.put]
                      refine hK.out _ _ hk (fun _ => ?_)
                      clear hK K
                      try simp only [Act.put, List.setIfInBounds_toArray, List.set_cons_zero, List.set_cons_succ]
                      refine wpAnyH_ready (rs := [9]) (by decide +kernel) (by simp) ?_
                      refine AllReadyH.cons (o := { dst := none, op := Op.store 42 (Operand.tmp 19) (Operand.tmp 91), type := 0, pos := "ref.go:166", after := #[{ on := 7, ground := Ground.data }, { on := 8, ground := Ground.chain }, { on := 0, ground := Ground.phase }, { on := 1, ground := Ground.phase }, { on := 2, ground := Ground.phase }, { on := 3, ground := Ground.phase }, { on := 4, ground := Ground.phase }, { on := 5, ground := Ground.phase }, { on := 6, ground := Ground.phase }, { on := 7, ground := Ground.phase }, { on := 8, ground := Ground.phase }], guard := none }) rfl (fun K hK => ?_) AllReadyH.nil
                      rw [if_pos (by rfl)]
                      refine wp_store_mid 42 (.tmp 19) (.tmp 91) rfl Vb 0 (bv Z).toArray rfl rfl ?htrgc29 HIZ.out HOZ.out ?_
                      case htrgc29 => exact row_there hv2 hgd.1 hZd.1
                      replace hv1 := row_keep hv1 (Nat.ne_of_lt hab) (bv Z).toArray.toList
                      replace hv2 := row_put hv2 hgd.1 hZd.1
                      replace hk := hk.store (by omega) hib pfb sfb (bv Z).toArray.toList
                      simp only [Act.put]
                      refine hK.out _ _ hk (fun _ => ?_)
                      clear hK K
                      try simp only [Act.put, List.setIfInBounds_toArray, List.set_cons_zero, List.set_cons_succ]
                      refine wpAnyH_done (by decide +kernel) ?_ _
                      have hGQ := hk.q
                      clear hk
                      go_wp2
                      go_roundw
                      case rel => exact ⟨t + 1, c + 1, k, by have := HT.out; omega, by have := HCK.out; omega, by go_num, by go_num, hGQ, by rw [HNX.out]; exact hv1, by rw [HNX.out]; exact hv2⟩
                      case measure => simp [intOf]
                  · rw [if_pos (by rfl)]
                    refine wp_load_mid 42 (.tmp 19) rfl Vb 0 rfl (bv g) _ (range_row hv2) Tryd.underlying42 rfl hig ?_
                    simp only [Act.put, List.setIfInBounds_toArray, List.set_cons_zero, List.set_cons_succ]
                    refine hK.out _ _ hk (fun _ => ?_)
                    clear hK K
                    try simp only [Act.put, List.setIfInBounds_toArray, List.set_cons_zero, List.set_cons_succ]
                    refine wpAnyH_ready (rs := [1]) (by decide +kernel) (by simp) ?_
                    refine AllReadyH.cons (o := { dst := some 85, op := Op.load 42 (Operand.tmp 17), type := 42, pos := "ref.go:166", after := #[], guard := none }) rfl (fun K hK => ?_) AllReadyH.nil
                    rw [if_pos (by rfl)]
                    refine wp_load_mid 42 (.tmp 17) rfl Va 0 rfl (bv f) _ (range_row hv1) Tryd.underlying42 rfl hif ?_
                    simp only [Act.put, List.setIfInBounds_toArray, List.set_cons_zero, List.set_cons_succ]
                    refine hK.out _ _ hk (fun _ => ?_)
                    clear hK K
                    try simp only [Act.put, List.setIfInBounds_toArray, List.set_cons_zero, List.set_cons_succ]
                    refine wpAnyH_ready (rs := [3]) (by decide +kernel) (by simp) ?_
                    refine AllReadyH.cons (o := { dst := some 87, op := Op.call { callee := Callee.value (Operand.func 50), args := #[Operand.tmp 84, Operand.tmp 85, Operand.tmp 86], argTypes := #[42, 42, 3] }, type := 42, pos := "ref.go:166", after := #[{ on := 0, ground := Ground.data }, { on := 1, ground := Ground.data }, { on := 2, ground := Ground.data }], guard := none }) rfl (fun K hK => ?_) AllReadyH.nil
                    go_simp
                    refine (HN1.out _).mono ?_
                    rintro e1 w3 ⟨rfl, hb1⟩
                    replace hv1 := (hb1.block _ (Array.getElem?_eq_some_iff.1 hv1).1).trans hv1
                    replace hv2 := (hb1.block _ (Array.getElem?_eq_some_iff.1 hv2).1).trans hv2
                    replace hk := hk.step hb1
                    clear hb1
                    refine hK.out _ _ hk (fun _ => ?_)
                    clear hK K
                    try simp only [Act.put, List.setIfInBounds_toArray, List.set_cons_zero, List.set_cons_succ]
                    refine wpAnyH_ready (rs := [7]) (by decide +kernel) (by simp) ?_
                    refine AllReadyH.cons (o := { dst := some 91, op := Op.call { callee := Callee.value (Operand.func 50), args := #[Operand.tmp 88, Operand.tmp 89, Operand.tmp 90], argTypes := #[42, 42, 3] }, type := 42, pos := "ref.go:166", after := #[{ on := 4, ground := Ground.data }, { on := 5, ground := Ground.data }, { on := 6, ground := Ground.data }, { on := 3, ground := Ground.chain }], guard := none }) rfl (fun K hK => ?_) AllReadyH.nil
                    go_simp
                    refine (HN2.out _).mono ?_
                    rintro e1 w7 ⟨rfl, hb1⟩
                    replace hv1 := (hb1.block _ (Array.getElem?_eq_some_iff.1 hv1).1).trans hv1
                    replace hv2 := (hb1.block _ (Array.getElem?_eq_some_iff.1 hv2).1).trans hv2
                    replace hk := hk.step hb1
                    clear hb1
                    refine hK.out _ _ hk (fun _ => ?_)
                    clear hK K
                    try simp only [Act.put, List.setIfInBounds_toArray, List.set_cons_zero, List.set_cons_succ]
                    refine wpAnyH_ready (rs := [8]) (by decide +kernel) (by simp) ?_
                    refine AllReadyH.cons (o := { dst := none, op := Op.store 42 (Operand.tmp 17) (Operand.tmp 87), type := 0, pos := "ref.go:166", after := #[{ on := 3, ground := Ground.data }, { on := 7, ground := Ground.chain }, { on := 0, ground := Ground.phase }, { on := 1, ground := Ground.phase }, { on := 2, ground := Ground.phase }, { on := 3, ground := Ground.phase }, { on := 4, ground := Ground.textOnly Departure.lateStores }, { on := 5, ground := Ground.textOnly Departure.lateStores }, { on := 6, ground := Ground.textOnly Departure.lateStores }, { on := 7, ground := Ground.textOnly Departure.lateStoresUnsure }], guard := none }) rfl (fun K hK => ?_) AllReadyH.nil
                    rw [if_pos (by rfl)]
                    refine wp_store_mid 42 (.tmp 17) (.tmp 87) rfl Va 0 (bv Y).toArray rfl rfl ?htrgc212 HIY.out HOY.out ?_
                    case htrgc212 => exact row_there hv1 hfd.1 hYd.1
                    replace hv1 := row_put hv1 hfd.1 hYd.1
                    replace hv2 := row_keep hv2 (Nat.ne_of_gt hab) (bv Y).toArray.toList
                    replace hk := hk.store hVa hia pfa sfa (bv Y).toArray.toList
                    simp only [Act.put]
                    refine hK.out _ _ hk (fun _ => ?_)
                    clear hK K
                    try simp only [Act.put, List.setIfInBounds_toArray, List.set_cons_zero, List.set_cons_succ]
                    refine wpAnyH_ready (rs := [9]) (by decide +kernel) (by simp) ?_
                    refine AllReadyH.cons (o := { dst := none, op := Op.store 42 (Operand.tmp 19) (Operand.tmp 91), type := 0, pos := "ref.go:166", after := #[{ on := 7, ground := Ground.data }, { on := 8, ground := Ground.chain }, { on := 0, ground := Ground.phase }, { on := 1, ground := Ground.phase }, { on := 2, ground := Ground.phase }, { on := 3, ground := Ground.phase }, { on := 4, ground := Ground.phase }, { on := 5, ground := Ground.phase }, { on := 6, ground := Ground.phase }, { on := 7, ground := Ground.phase }, { on := 8, ground := Ground.phase }], guard := none }) rfl (fun K hK => ?_) AllReadyH.nil
                    rw [if_pos (by rfl)]
                    refine wp_store_mid 42 (.tmp 19) (.tmp 91) rfl Vb 0 (bv Z).toArray rfl rfl ?htrgc213 HIZ.out HOZ.out ?_
                    case htrgc213 => exact row_there hv2 hgd.1 hZd.1
                    replace hv1 := row_keep hv1 (Nat.ne_of_lt hab) (bv Z).toArray.toList
                    replace hv2 := row_put hv2 hgd.1 hZd.1
                    replace hk := hk.store (by omega) hib pfb sfb (bv Z).toArray.toList
                    simp only [Act.put]
                    refine hK.out _ _ hk (fun _ => ?_)
                    clear hK K
                    try simp only [Act.put, List.setIfInBounds_toArray, List.set_cons_zero, List.set_cons_succ]
                    refine wpAnyH_done (by decide +kernel) ?_ _
                    have hGQ := hk.q
                    clear hk
                    go_wp2
                    go_roundw
                    case rel => exact ⟨t + 1, c + 1, k, by have := HT.out; omega, by have := HCK.out; omega, by go_num, by go_num, hGQ, by rw [HNX.out]; exact hv1, by rw [HNX.out]; exact hv2⟩
                    case measure => simp [intOf]
                | false =>
                  obtain ⟨Z, hZ⟩ : ∃ Z, Z = nodeL g r x := ⟨_, rfl⟩
                  have hZd : Dg Z := by rw [hZ]; exact nodeL_dg _ _ _
                  have HN1 : Bx (∀ W, Calls Tryd.prog 50 #[.agg (bv g).toArray, .agg (bv r).toArray, .int .i64 x] W fun e w' => e = .returned (.agg (bv Z).toArray) ∧ Below W.heap.size W w') := ⟨fun W => by rw [hZ]; exact refnode_any g r x W hgd hrd⟩
                  have HNX : Bx (gup x (SL.reverse.take (c + 1)) (R.take (c + 1)) (a0, a0) = (f, Z)) := ⟨by rw [HMB.out, hZ]; rfl⟩
                  obtain ⟨HIZ, HOZ, _⟩ := dgi hZd.1
                  obtain ⟨HIG, _, _⟩ := dgi hgd.1
                  obtain ⟨DG, hDG⟩ : ∃ DG, DG = (bv g).toArray := ⟨_, rfl⟩
                  have HN3 : Bx (∀ W, Calls Tryd.prog 50 #[.agg DG, .agg DR, .int .i64 x] W fun e w' => e = .returned (.agg (bv Z).toArray) ∧ Below W.heap.size W w') := ⟨by rw [hDG, HDR.out]; exact HN1.out⟩
                  rw [← hDG] at HIG
                  have HIR5 : Bx ((Tryd.prog.info? 42).map (·.size) = some DR.size) := ⟨by rw [HDR.out]; exact HIr.out⟩
                  have HVB : Bx (∀ W, Below wr.heap.size wr W → W.heap[Vb]? = some (.cells DG 42 (0, 0))) := ⟨fun W h => by rw [hDG]; exact (h.block _ hlbr).trans hvb⟩
                  clear hZ HMB HN1 hDG
                  go_wp2_with (first
                    | (refine wpList_load_mid rfl 42 (.tmp 76) rfl pb (po + t * 32) rfl (bv r) _ HEL.out Tryd.underlying42 rfl HIR4.out ?_; rw [← HDR.out])
                    | (refine wpList_store_mid rfl 42 (.tmp 21) (.tmp 77) rfl wr.heap.size 0 DR rfl rfl ?htr HINR.out HONR.out ?_; (case htr => exact HTHR.out); have hdv4 := HDVR.out; generalize (wr.alloc (.cells #[.int .u8 0, .int .u8 0, .int .u8 0, .int .u8 0, .int .u8 0, .int .u8 0, .int .u8 0, .int .u8 0, .int .u8 0, .int .u8 0, .int .u8 0, .int .u8 0, .int .u8 0, .int .u8 0, .int .u8 0, .int .u8 0, .int .u8 0, .int .u8 0, .int .u8 0, .int .u8 0, .int .u8 0, .int .u8 0, .int .u8 0, .int .u8 0, .int .u8 0, .int .u8 0, .int .u8 0, .int .u8 0, .int .u8 0, .int .u8 0, .int .u8 0, .int .u8 0] 42)).setCells wr.heap.size 0 DR.toList = w4 at hdv4 ⊢; clear HDVR HTHR; have hGQ4 := hGQ.step hdv4.low; have hcell := HBIT.out _ hGQ4; have HV4 : Bx _ := ⟨HVB.out _ hdv4.low⟩; have HR4 : Bx (w4.heap[wr.heap.size]? = some (.cells DR 42 (0, 0))) := ⟨by rw [HDR.out]; exact hdv4.row⟩)
                    | (refine wpList_load_row rfl 42 (.tmp 19) rfl Vb rfl 42 DG (0, 0) _ HV4.out Tryd.underlying42 rfl HIG.out ?_)
                    | (refine wpList_load_row rfl 42 (.tmp 21) rfl wr.heap.size rfl 42 DR (0, 0) _ HR4.out Tryd.underlying42 rfl HIR5.out ?_))
                  refine (HN3.out _).mono ?_
                  rintro e w5 ⟨rfl, hb5⟩
                  have hv1 := (hb5.block _ hGQ4.lta).trans ((hdv4.low.block _ hlar).trans hva)
                  have hv2 := (hb5.block _ hGQ4.ltb).trans ((hdv4.low.block _ hlbr).trans hvb)
                  have hGQ5 := hGQ4.step hb5
                  have HTH5 : Bx _ := ⟨row_there hv2 hgd.1 hZd.1⟩
                  have HGQ6 : Bx _ := ⟨hGQ5.store (by omega) pfb sfb (bv Z).toArray.toList⟩
                  have HV1 : Bx _ := ⟨row_keep hv1 (Nat.ne_of_lt hab) (bv Z).toArray.toList⟩
                  have HV2 : Bx _ := ⟨row_put hv2 hgd.1 hZd.1⟩
                  clear hb5 hdv4 hva hvb hGQ hGQ4 hGQ5 hv1 hv2 hcell HBIT HEL HVB HV4 HR4 HINR HONR HN3
                  go_wp2_with (refine wpList_store_mid rfl 42 (.tmp 19) (.tmp 95) rfl Vb 0 (bv Z).toArray rfl rfl ?hts HIZ.out HOZ.out ?_; (case hts => exact HTH5.out))
                  go_roundw
                  case rel => exact ⟨t + 1, c + 1, k, by have := HT.out; omega, by have := HCK.out; omega, by go_num, by go_num, HGQ6.out, by rw [HNX.out]; exact HV1.out, by rw [HNX.out]; exact HV2.out⟩
                  case measure => simp [intOf]
          · have hne : ((len : Int) != (SL.length : Int) + 1) = true := by simp; omega
            have HUB : Bx (false = chkG old (j : Int) root (q : Int) P x) := ⟨by rw [HCH2.out, decide_eq_false (show ¬ P.length = SL.length + 1 by omega), Bool.false_and]⟩
            clear HCH2 hP hP1 hodW hrtW hownW HDV HTH HOD
            go_wp2
            go_ret
            exact ⟨ret_bool HUB.out, hlowW⟩
  · have HCH : Bx (chkG old m root n P x = false) := ⟨by unfold chkG; rw [decide_eq_false hin, Bool.false_and]⟩
    rw [HCH.out]
    clear hod0 hrt0 HCH hP
    by_cases h0 : m < 1
    · have h1 : decide (m < 1) = true := by simpa using h0
      clear hin
      go_enter Tryd.func47, Tryd.ntmps47
      go_wp2
      go_ret
      exact ⟨rfl, hb0⟩
    · have h1 : decide (m < 1) = false := by simpa using h0
      have h2 : decide (m > n) = true := by simp; omega
      clear hin
      go_enter Tryd.func47, Tryd.ntmps47
      go_wp2
      go_ret
      exact ⟨rfl, hb0⟩
end Go.Proofs.YtfkloilbjfleeaaDoor
