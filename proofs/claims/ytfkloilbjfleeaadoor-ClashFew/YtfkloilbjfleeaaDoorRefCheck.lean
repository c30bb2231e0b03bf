/- What the document's own CheckPath answers. -/
import Derived.Test.YtfkloilbjfleeaaDoorSteps
import Derived.Test.YtfkloilbjfleeaaDoorRefNode
import Derived.Test.YtfkloilbjfleeaaDoorSme
import Derived.Test.YtfkloilbjfleeaaDoorWritten
namespace Go.Proofs.YtfkloilbjfleeaaDoor
open Go.RowKit
set_option linter.unusedVariables false

/-- what stays while a path is checked: the root, the path, the steps; not the digest in the block V -/
structure CQ (V : Nat) (root : List Int) (a : Option Addr) (len cap : Nat) (P : List (List Int)) (sv : Value) (SL : List Bool) (w wr : World) : Prop where
  low : Below w.heap.size w wr
  lt : V < wr.heap.size
  rt : wr.heap[w.heap.size]? = some (.cells (bv root).toArray 42 (0, 0))
  pth : Dgs wr a len cap P
  stp : wr.ownsRow w.heap.size 4 1 sv SL.length (bb SL)
variable {V : Nat} {root : List Int} {a : Option Addr} {len cap : Nat} {P : List (List Int)} {sv : Value} {SL : List Bool} {w wr w1 : World}
set_option maxRecDepth 100000 in
theorem CQ.step (h : CQ V root a len cap P sv SL w wr) (hb : Below wr.heap.size wr w1) : CQ V root a len cap P sv SL w w1 := by
  have hs := h.low.size
  exact ⟨h.low.trans (hb.mono hs), Nat.lt_of_lt_of_le h.lt hb.size, (hb.block _ (Array.getElem?_eq_some_iff.1 h.rt).1).trans h.rt, h.pth.below hb, owns_below h.stp hb⟩
set_option maxRecDepth 100000 in
theorem CQ.drewN (h : CQ V root a len cap P sv SL w wr) (n : Nat) : CQ V root a len cap P sv SL w (wr.drewN n) := ⟨below_drewN h.low n, h.lt, h.rt, h.pth.drewN n, owns_drewN h.stp n⟩
set_option maxRecDepth 100000 in
theorem owns_but {g base : Nat} {e : TypeId} {size n : Nat} {v : Value} {xs : List Value} (h : wr.ownsRow base e size v n xs) (hb : But g wr w1) (hg : ∀ k, v.ownBlock = some k → k ≠ g) : w1.ownsRow base e size v n xs := by
  refine ⟨h.1, ?_⟩
  rcases h.2 with h2 | ⟨k, cap, cur, hv, hbs, hh, r⟩
  · exact .inl h2
  · exact .inr ⟨k, cap, cur, hv, hbs, by rw [hb.block k (Array.getElem?_eq_some_iff.1 hh).1 (hg k (by rw [hv]; rfl))]; exact hh, r⟩
set_option maxRecDepth 100000 in
theorem CQ.store (h : CQ V root a len cap P sv SL w wr) (hV : w.heap.size < V) (pf : 0 < len → ∀ p, a = some p → p.block ≠ V) (sf : ∀ k, sv.ownBlock = some k → k ≠ V) (vs : List Value) : CQ V root a len cap P sv SL w (wr.setCells V 0 vs) := by
  have hbut : But V wr (wr.setCells V 0 vs) := (But.refl _ _).setCells vs 0
  exact ⟨below_setCells h.low V (by omega) vs 0, Nat.lt_of_lt_of_le h.lt hbut.size, (hbut.block _ (Array.getElem?_eq_some_iff.1 h.rt).1 (by omega)).trans h.rt, h.pth.but2 hbut pf, owns_but h.stp hbut sf⟩
set_option maxRecDepth 100000 in
theorem CQ.elem {pb po k : Nat} {pk : List Int} (h : CQ V root (some ⟨pb, po, none⟩) len cap P sv SL w wr) (hp : P.getD k [] = pk) (hk : k < len) : wr.rangeAt pb (po + k * 32) (bv pk) := by
  obtain ⟨b, o, e, _, hc⟩ := h.pth.spot (by omega)
  cases e
  rw [Nat.mul_comm k 32, ← hp]; exact hc k hk
set_option maxRecDepth 100000 in
theorem cq_there {d Z : List Int} (h : wr.heap[V]? = some (.cells (bv d).toArray 42 (0, 0))) (hd : d.length = 32) (hZ : Z.length = 32) : wr.there V 0 (bv Z).toArray.size := by
  have := there_row h
  rw [List.size_toArray, bv_length, hd] at this
  rw [List.size_toArray, bv_length, hZ]; exact this
set_option maxRecDepth 100000 in
theorem up_more (x : Int) (leaf : List Int) (k : Nat) (hS : SL.length = len) (hP : P.length = len) (hk : k < len) :
    upL x (SL.reverse.take (k + 1)) (P.take (k + 1)) leaf = (if SL.getD (len - 1 - k) false then nodeL (P.getD k []) (upL x (SL.reverse.take k) (P.take k) leaf) x else nodeL (upL x (SL.reverse.take k) (P.take k) leaf) (P.getD k []) x) := by
  have h1 : k < SL.reverse.length := by rw [List.length_reverse]; omega
  have h2 : k < P.length := by omega
  have e1 : SL.reverse[k] = SL.getD (len - 1 - k) false := by
    rw [List.getElem_reverse, List.getD_eq_getElem?_getD, List.getElem?_eq_getElem (by omega)]
    simp [hS]
  rw [List.take_succ_eq_append_getElem h1, List.take_succ_eq_append_getElem h2, upL_snoc x _ _ _ _ _ (by rw [List.length_take, List.length_take, List.length_reverse]; omega), e1]
  have e2 : P.getD k [] = P[k] := by rw [List.getD_eq_getElem?_getD, List.getElem?_eq_getElem h2]; rfl
  rw [e2]

set_option maxRecDepth 100000 in
set_option maxHeartbeats 2000000 in
theorem refcheckpath_any (root : List Int) (n i : Int) (leaf : List Int) (a : Option Addr) (len cap : Nat) (P : List (List Int)) (x : Int) (w : World) (hr : Dg root) (hleaf : Dg leaf) (hn : n ≤ 9223372036854775807) (hP : Dgs w a len cap P) :
    Calls Tryd.prog 42 #[.agg (bv root).toArray, .int .i64 n, .int .i64 i, .agg (bv leaf).toArray, .slice a len cap, .int .i64 x] w fun e w' => e = .returned (.bool (chkP root n i leaf P x)) ∧ Below w.heap.size w w' := by
  have hb0 : Below w.heap.size w ((w.alloc (.cells (bv root).toArray 42)).alloc (.cells (bv leaf).toArray 42)) := ((Below.refl _ _).alloc (Nat.le_refl _) _).alloc (by simp) _
  have hrt0 : ((w.alloc (.cells (bv root).toArray 42)).alloc (.cells (bv leaf).toArray 42)).heap[w.heap.size]? = some (.cells (bv root).toArray 42 (0, 0)) := by rw [heap_alloc_old _ _ (by simp), heap_alloc_new]
  have hlf0 : ((w.alloc (.cells (bv root).toArray 42)).alloc (.cells (bv leaf).toArray 42)).heap[w.heap.size + 1]? = some (.cells (bv leaf).toArray 42 (0, 0)) := by rw [show w.heap.size + 1 = (w.alloc (.cells (bv root).toArray 42)).heap.size from by simp, heap_alloc_new]
  have hlen := hP.len_eq
  have hcap := hP.le_cap
  have hcm := hP.cap_le
  unfold maxLen at hcm
  by_cases hin : 0 ≤ i ∧ i < n
  · obtain ⟨j, rfl⟩ : ∃ j : Nat, i = (j : Int) := ⟨i.toNat, by omega⟩
    obtain ⟨m, rfl⟩ : ∃ m : Nat, n = (m : Int) := ⟨n.toNat, by omega⟩
    have h1 : decide ((j : Int) < 0) = false := by simp
    have h2 : decide (m ≤ j) = false := by simp; omega
    have HCH : Bx (chkP root (m : Int) (j : Int) leaf P x = (decide ((stepsL m j).length = P.length) && decide (upL x (stepsL m j).reverse P leaf = root))) := ⟨by
      unfold chkP
      rw [show ((m : Int)).toNat = m from by omega, show ((j : Int)).toNat = j from by omega, decide_eq_true hin, Bool.true_and]⟩
    have HST : Bx (∀ W, Calls Tryd.prog 28 #[.int .i64 m, .int .i64 j] W fun e w' => ∃ v, e = .returned v ∧ w'.ownsRow W.heap.size 4 1 v (stepsL m j).length (bb (stepsL m j)) ∧ Below W.heap.size W w') := ⟨fun W => steps_any m j W (by omega) (by omega) (by omega)⟩
    have HIL : Bx ((Tryd.prog.info? 42).map (·.size) = some (bv leaf).toArray.size) := ⟨by rw [List.size_toArray, bv_length, hleaf.1]; exact dig_info⟩
    have HIR : Bx ((Tryd.prog.info? 42).map (·.size) = some (bv root).toArray.size) := ⟨by rw [List.size_toArray, bv_length, hr.1]; exact dig_info⟩
    have hbits := stepsL_bits 63 m j (by omega)
    have hs0 : ((w.alloc (.cells (bv root).toArray 42)).alloc (.cells (bv leaf).toArray 42)).heap.size = w.heap.size + 1 + 1 := by simp
    generalize stepsL m j = SL at HCH HST hbits
    clear hin
    go_enter Tryd.func42, Tryd.ntmps42
    go_wp2_with fail
    generalize (w.alloc (.cells (bv root).toArray 42)).alloc (.cells (bv leaf).toArray 42) = w0 at hb0 hlf0 hrt0 hs0 ⊢
    refine (HST.out _).mono ?_
    rintro e w1 ⟨sv, rfl, hown, hb1⟩
    obtain ⟨sa, sc, rfl⟩ : ∃ sa sc, sv = .slice sa SL.length sc := by
      rcases hown.2 with ⟨h, h0⟩ | ⟨g, c, cur, h, _⟩
      · exact ⟨_, 0, by rw [h0]; exact h⟩
      · exact ⟨_, c, h⟩
    have hlow1 := bstep hb0 hb1
    have hz1 := hb1.size
    have hrt1 := (hb1.block w.heap.size (by omega)).trans hrt0
    have hlf1 := (hb1.block (w.heap.size + 1) (by omega)).trans hlf0
    have hown1 := owns_base hown (show w.heap.size ≤ w0.heap.size by omega)
    have sfar := hown.lt
    clear HST hown hb0 hb1 hrt0 hlf0
    by_cases hse : SL.length = len
    · have HU : Bx (∀ q, q = decide (upL x SL.reverse P leaf = root) → q = chkP root (m : Int) (j : Int) leaf P x) := ⟨fun q h => by rw [h, HCH.out, decide_eq_true (show SL.length = P.length by omega), Bool.true_and]⟩
      have hne : ((SL.length : Int) != (len : Int)) = false := by rw [hse]; simp
      obtain ⟨DL, hDL⟩ : ∃ DL, DL = (bv leaf).toArray := ⟨_, rfl⟩
      obtain ⟨hdv, hth, hinf, hone⟩ := dig_var w1 leaf hleaf.1 DL hDL
      have HTH : Bx _ := ⟨hth⟩
      have HDV : Bx _ := ⟨hdv⟩
      have HINF : Bx _ := ⟨hinf⟩
      have HONE : Bx _ := ⟨hone⟩
      rw [← hDL] at hlf1 HIL
      have HLF1 : Bx _ := ⟨hlf1⟩
      have hV : w.heap.size < w1.heap.size := by omega
      have pf : 0 < len → ∀ p, a = some p → p.block ≠ w1.heap.size := hP.old hlow1.size
      have sf : ∀ k, (Value.slice sa SL.length sc).ownBlock = some k → k ≠ w1.heap.size := fun k hk => by have := (sfar k hk).2; omega
      have hP1 := hP.below hlow1
      rw [← hDL]
      clear hdv hth hinf hone hDL hlf1 hP HCH sfar
      go_wp2_with (first
        | (refine wpList_load_row rfl 42 (.tmp 9) rfl (w.heap.size + 1) rfl 42 DL (0, 0) _ HLF1.out Tryd.underlying42 rfl HIL.out ?_)
        | (refine wpList_store_mid rfl 42 (.tmp 14) (.tmp 31) rfl w1.heap.size 0 DL rfl rfl ?ht HINF.out HONE.out ?_; (case ht => exact HTH.out); have hdv2 := HDV.out; generalize (w1.alloc (.cells #[.int .u8 0, .int .u8 0, .int .u8 0, .int .u8 0, .int .u8 0, .int .u8 0, .int .u8 0, .int .u8 0, .int .u8 0, .int .u8 0, .int .u8 0, .int .u8 0, .int .u8 0, .int .u8 0, .int .u8 0, .int .u8 0, .int .u8 0, .int .u8 0, .int .u8 0, .int .u8 0, .int .u8 0, .int .u8 0, .int .u8 0, .int .u8 0, .int .u8 0, .int .u8 0, .int .u8 0, .int .u8 0, .int .u8 0, .int .u8 0, .int .u8 0, .int .u8 0] 42)).setCells w1.heap.size 0 DL.toList = w2 at hdv2 ⊢; clear HDV HTH))
      have hCQ : CQ w1.heap.size root a len cap P (.slice sa SL.length sc) SL w w2 := ⟨bstep hlow1 hdv2.low, (Array.getElem?_eq_some_iff.1 hdv2.row).1, (hdv2.low.block _ hV).trans hrt1, hP1.below hdv2.low, owns_below hown1 hdv2.low⟩
      have hrow2 := hdv2.row
      clear hdv2 hlow1 hrt1 hP1 hown1 HLF1 HINF HONE HIL hz1
      generalize w1.heap.size = V at hCQ hrow2 hV pf sf ⊢
      go_loopw [15] (fun vi wr => ∃ k : Nat, k ≤ len ∧ vi = .int .i64 k ∧ CQ V root a len cap P (.slice sa SL.length sc) SL w wr ∧ wr.heap[V]? = some (.cells (bv (upL x (SL.reverse.take k) (P.take k) leaf)).toArray 42 (0, 0))) (fun vi _ => len - (intOf vi).toNat)
      case atStart => exact ⟨0, Nat.zero_le _, rfl, hCQ, hrow2⟩
      case round =>
        clear hCQ hrow2
        obtain ⟨k, hk, rfl, hCQ, hrow⟩ := hrel
        have hd : Dg (upL x (SL.reverse.take k) (P.take k) leaf) := upL_dg x _ _ _ hleaf
        by_cases hlt : k < len
        · have HM := up_more x leaf k hse hlen hlt
          obtain ⟨jj, hjj⟩ : ∃ jj, jj = len - 1 - k := ⟨_, rfl⟩
          rw [← hjj] at HM
          have HMB : Bx _ := ⟨HM⟩
          have hidx : (SL.length : Int) - 1 - (k : Int) = (jj : Int) := by rw [hse]; omega
          obtain ⟨pb, po, rfl, _, _⟩ := hCQ.pth.spot (by omega)
          obtain ⟨sg, sc2, hsv, _, _⟩ := owns_form hCQ.stp (by omega)
          cases hsv
          have hcell : wr.cell? ⟨sg, jj, none⟩ = some (.bool (SL.getD jj false)) := by
            rw [hCQ.stp.cellAt jj (by omega)]
            unfold bb
            rw [List.getElem?_map, List.getElem?_eq_getElem (by omega), List.getD_eq_getElem?_getD, List.getElem?_eq_getElem (by omega)]; rfl
          have hpk := hCQ.pth.dig.getD k (by omega)
          have hk1 : P.getD k [] = P.getD k [] := rfl
          generalize hpg : P.getD k [] = pk at HMB hpk
          replace hk1 : P.getD k [] = pk := hpg
          have HKP : Bx (P.getD k [] = pk) := ⟨hpg⟩
          generalize hdg : upL x (SL.reverse.take k) (P.take k) leaf = d at hd hrow HMB
          generalize hcg : SL.getD jj false = c at hcell HMB
          have hdd : (Tryd.prog.info? 42).map (·.size) = some (bv d).length := by rw [bv_length, hd.1]; exact dig_info
          have hdp : (Tryd.prog.info? 42).map (·.size) = some (bv pk).length := by rw [bv_length, hpk.1]; exact dig_info
          have hslj : (jj : Int) < (SL.length : Int) := by rw [hse]; omega
          rw [hjj] at hcell
          clear hdg hcg HM hpg hk1
          have hk1 := HKP.out
          cases c with
          | true =>
            obtain ⟨Z, hZ⟩ : ∃ Z, Z = nodeL pk d x := ⟨_, rfl⟩
            have hZd : Dg Z := by rw [hZ]; exact nodeL_dg _ _ _
            have HND : Bx (∀ W, Calls Tryd.prog 50 #[.agg (bv pk).toArray, .agg (bv d).toArray, .int .i64 x] W fun e w' => e = .returned (.agg (bv Z).toArray) ∧ Below W.heap.size W w') := ⟨fun W => by rw [hZ]; exact refnode_any pk d x W hpk hd⟩
            have HNX : Bx (upL x (SL.reverse.take (k + 1)) (P.take (k + 1)) leaf = Z) := ⟨by rw [HMB.out, hZ]; rfl⟩
            have HZI : Bx ((Tryd.prog.info? 42).map (·.size) = some (bv Z).toArray.size) := ⟨by rw [List.size_toArray, bv_length, hZd.1]; exact dig_info⟩
            have HZO : Bx ((bv Z).toArray.all (·.oneCell') = true) := ⟨all_oneCell_toArray (bv_one _)⟩
            clear hZ HMB
            obtain ⟨HSE, _⟩ : Bx (SL.length = len) ∧ True := ⟨⟨hse⟩, trivial⟩
            obtain ⟨sv, hsvv⟩ : ∃ sv, sv = Value.slice (some ⟨sg, 0, none⟩) SL.length sc := ⟨_, rfl⟩
            have hk := hCQ.drewN 1
            have hv : (wr.drewN 1).heap[V]? = some (.cells (bv d).toArray 42 (0, 0)) := hrow
            have sf' := sf
            rw [← hsvv] at hk sf
            have HSV : Bx (sv = Value.slice (some ⟨sg, 0, none⟩) SL.length sc) := ⟨hsvv⟩
            clear hsvv hCQ hrow hse hlen
            generalize SL.length = sl at hidx hslj HSE sf' HSV ⊢
            go_wp2_with fail
            refine wp_region_held_drew (S := fun W => CQ V root (some ⟨pb, po, none⟩) len cap P sv SL w W) (by kernel_rfl) hk (fun _ => ?_)
            refine wpAnyH_take (i := 0) (oi := { dst := some 46, op := Op.move (Operand.tmp 4), type := 30, pos := "ref.go:104", after := #[], guard := none }) (v := ?vrchk11) rfl (by kernel_rfl) (by kernel_rfl) (by kernel_rfl) (fun _ _ _ h => h) (Or.inl ⟨by rfl, ?yrchk11⟩) hk ?rrchk11
            case yrchk11 => (intro w hSw; (try dsimp only at hSw); go_simp; first | done | with_reducible rfl)
            simp only [Act.put, List.setIfInBounds_toArray, List.set_cons_zero, List.set_cons_succ]
            refine wpAnyH_take (i := 1) (oi := { dst := some 47, op := Op.move (Operand.tmp 15), type := 3, pos := "ref.go:104", after := #[], guard := none }) (v := ?vrchk12) rfl (by kernel_rfl) (by kernel_rfl) (by kernel_rfl) (fun _ _ _ h => h) (Or.inl ⟨by rfl, ?yrchk12⟩) hk ?rrchk12
            case yrchk12 => (intro w hSw; (try dsimp only at hSw); go_simp; first | done | with_reducible rfl)
            simp only [Act.put, List.setIfInBounds_toArray, List.set_cons_zero, List.set_cons_succ]
            refine wpAnyH_take (i := 2) (oi := { dst := some 48, op := Op.indexAddr 30 (Operand.tmp 46) (Operand.tmp 47), type := 0, pos := "ref.go:104", after := #[{ on := 0, ground := Ground.data }, { on := 1, ground := Ground.data }], guard := none }) (v := ?vrchk13) rfl (by kernel_rfl) (by kernel_rfl) (by kernel_rfl) (fun _ _ _ h => h) (Or.inl ⟨by rfl, ?yrchk13⟩) hk ?rrchk13
            case yrchk13 => (intro w hSw; (try dsimp only at hSw); go_simp; first | done | with_reducible rfl)
            simp only [Act.put, List.setIfInBounds_toArray, List.set_cons_zero, List.set_cons_succ]
            refine wpAnyH_take (i := 3) (oi := { dst := some 49, op := Op.load 42 (Operand.tmp 48), type := 42, pos := "ref.go:104", after := #[{ on := 2, ground := Ground.data }], guard := none }) (v := .agg (bv pk).toArray) rfl (by kernel_rfl) (by kernel_rfl) (by kernel_rfl) (fun _ _ _ h => h) (yieldsIf_load_mid (by rfl) 42 (.tmp 48) rfl pb (po + k * 32) rfl (bv pk) _ (fun W h => CQ.elem h hk1 hlt) Tryd.underlying42 rfl hdp) hk ?_
            simp only [Act.put, List.setIfInBounds_toArray, List.set_cons_zero, List.set_cons_succ]
            refine wpAnyH_take (i := 5) (oi := { dst := some 51, op := Op.move (Operand.tmp 5), type := 3, pos := "ref.go:104", after := #[], guard := none }) (v := ?vrchk14) rfl (by kernel_rfl) (by kernel_rfl) (by kernel_rfl) (fun _ _ _ h => h) (Or.inl ⟨by rfl, ?yrchk14⟩) hk ?rrchk14
            case yrchk14 => (intro w hSw; (try dsimp only at hSw); go_simp; first | done | with_reducible rfl)
            simp only [Act.put, List.setIfInBounds_toArray, List.set_cons_zero, List.set_cons_succ]
            refine wpAnyH_ready (rs := [4]) (by decide +kernel) (by simp) ?_
            refine AllReadyH.cons (o := { dst := some 50, op := Op.load 42 (Operand.tmp 14), type := 42, pos := "ref.go:104", after := #[], guard := none }) rfl (fun K hK => ?_) AllReadyH.nil
            rw [if_pos (by rfl)]
            refine wp_load_mid 42 (.tmp 14) rfl V 0 rfl (bv d) _ (range_row hv) Tryd.underlying42 rfl hdd ?_
            simp only [Act.put, List.setIfInBounds_toArray, List.set_cons_zero, List.set_cons_succ]
            refine hK.out _ _ hk (fun _ => ?_)
            clear hK K
            try simp only [Act.put, List.setIfInBounds_toArray, List.set_cons_zero, List.set_cons_succ]
            refine wpAnyH_ready (rs := [6]) (by decide +kernel) (by simp) ?_
            refine AllReadyH.cons (o := { dst := some 52, op := Op.call { callee := Callee.value (Operand.func 50), args := #[Operand.tmp 49, Operand.tmp 50, Operand.tmp 51], argTypes := #[42, 42, 3] }, type := 42, pos := "ref.go:104", after := #[{ on := 3, ground := Ground.data }, { on := 4, ground := Ground.data }, { on := 5, ground := Ground.data }], guard := none }) rfl (fun K hK => ?_) AllReadyH.nil
            go_simp
            refine (HND.out _).mono ?_
            rintro e1 w6 ⟨rfl, hb1⟩
            replace hv := (hb1.block V hk.lt).trans hv
            replace hk := hk.step hb1
            clear hb1
            refine hK.out _ _ hk (fun _ => ?_)
            clear hK K
            try simp only [Act.put, List.setIfInBounds_toArray, List.set_cons_zero, List.set_cons_succ]
            refine wpAnyH_ready (rs := [7]) (by decide +kernel) (by simp) ?_
            refine AllReadyH.cons (o := { dst := none, op := Op.store 42 (Operand.tmp 14) (Operand.tmp 52), type := 0, pos := "ref.go:104", after := #[{ on := 6, ground := Ground.data }, { on := 6, ground := Ground.chain }, { on := 0, ground := Ground.phase }, { on := 1, ground := Ground.phase }, { on := 2, ground := Ground.phase }, { on := 3, ground := Ground.phase }, { on := 4, ground := Ground.phase }, { on := 5, ground := Ground.phase }, { on := 6, ground := Ground.phase }], guard := none }) rfl (fun K hK => ?_) AllReadyH.nil
            rw [if_pos (by rfl)]
            refine wp_store_mid 42 (.tmp 14) (.tmp 52) rfl V 0 (bv Z).toArray rfl rfl ?htrchk16 HZI.out HZO.out ?_
            case htrchk16 => exact cq_there hv hd.1 hZd.1
            replace hv := heap_stored (vs := (bv Z).toArray) hv (by rw [List.size_toArray, List.size_toArray, bv_length, bv_length, hd.1, hZd.1])
            replace hk := hk.store hV pf sf (bv Z).toArray.toList
            simp only [Act.put]
            refine hK.out _ _ hk (fun _ => ?_)
            clear hK K
            try simp only [Act.put, List.setIfInBounds_toArray, List.set_cons_zero, List.set_cons_succ]
            refine wpAnyH_done (by decide +kernel) ?_ _
            clear hcell
            go_wp2
            go_roundw
            case rel => exact ⟨k + 1, by omega, by go_num, by rw [← HSV.out]; exact hk, by rw [HNX.out]; exact hv⟩
            case measure => simp [intOf]; omega
          | false =>
            obtain ⟨Z, hZ⟩ : ∃ Z, Z = nodeL d pk x := ⟨_, rfl⟩
            have hZd : Dg Z := by rw [hZ]; exact nodeL_dg _ _ _
            have HND : Bx (∀ W, Calls Tryd.prog 50 #[.agg (bv d).toArray, .agg (bv pk).toArray, .int .i64 x] W fun e w' => e = .returned (.agg (bv Z).toArray) ∧ Below W.heap.size W w') := ⟨fun W => by rw [hZ]; exact refnode_any d pk x W hd hpk⟩
            have HNX : Bx (upL x (SL.reverse.take (k + 1)) (P.take (k + 1)) leaf = Z) := ⟨by rw [HMB.out, hZ]; rfl⟩
            have HZI : Bx ((Tryd.prog.info? 42).map (·.size) = some (bv Z).toArray.size) := ⟨by rw [List.size_toArray, bv_length, hZd.1]; exact dig_info⟩
            have HZO : Bx ((bv Z).toArray.all (·.oneCell') = true) := ⟨all_oneCell_toArray (bv_one _)⟩
            clear hZ HMB
            obtain ⟨HSE, _⟩ : Bx (SL.length = len) ∧ True := ⟨⟨hse⟩, trivial⟩
            obtain ⟨sv, hsvv⟩ : ∃ sv, sv = Value.slice (some ⟨sg, 0, none⟩) SL.length sc := ⟨_, rfl⟩
            have hk := hCQ.drewN 1
            have hv : (wr.drewN 1).heap[V]? = some (.cells (bv d).toArray 42 (0, 0)) := hrow
            have sf' := sf
            rw [← hsvv] at hk sf
            have HSV : Bx (sv = Value.slice (some ⟨sg, 0, none⟩) SL.length sc) := ⟨hsvv⟩
            clear hsvv hCQ hrow hse hlen
            generalize SL.length = sl at hidx hslj HSE sf' HSV ⊢
            go_wp2_with fail
            refine wp_region_held_drew (S := fun W => CQ V root (some ⟨pb, po, none⟩) len cap P sv SL w W) (by kernel_rfl) hk (fun _ => ?_)
            refine wpAnyH_take (i := 1) (oi := { dst := some 54, op := Op.move (Operand.tmp 4), type := 30, pos := "ref.go:106", after := #[], guard := none }) (v := ?vrchk21) rfl (by kernel_rfl) (by kernel_rfl) (by kernel_rfl) (fun _ _ _ h => h) (Or.inl ⟨by rfl, ?yrchk21⟩) hk ?rrchk21
            case yrchk21 => (intro w hSw; (try dsimp only at hSw); go_simp; first | done | with_reducible rfl)
            simp only [Act.put, List.setIfInBounds_toArray, List.set_cons_zero, List.set_cons_succ]
            refine wpAnyH_take (i := 2) (oi := { dst := some 55, op := Op.move (Operand.tmp 15), type := 3, pos := "ref.go:106", after := #[], guard := none }) (v := ?vrchk22) rfl (by kernel_rfl) (by kernel_rfl) (by kernel_rfl) (fun _ _ _ h => h) (Or.inl ⟨by rfl, ?yrchk22⟩) hk ?rrchk22
            case yrchk22 => (intro w hSw; (try dsimp only at hSw); go_simp; first | done | with_reducible rfl)
            simp only [Act.put, List.setIfInBounds_toArray, List.set_cons_zero, List.set_cons_succ]
            refine wpAnyH_take (i := 3) (oi := { dst := some 56, op := Op.indexAddr 30 (Operand.tmp 54) (Operand.tmp 55), type := 0, pos := "ref.go:106", after := #[{ on := 1, ground := Ground.data }, { on := 2, ground := Ground.data }], guard := none }) (v := ?vrchk23) rfl (by kernel_rfl) (by kernel_rfl) (by kernel_rfl) (fun _ _ _ h => h) (Or.inl ⟨by rfl, ?yrchk23⟩) hk ?rrchk23
            case yrchk23 => (intro w hSw; (try dsimp only at hSw); go_simp; first | done | with_reducible rfl)
            simp only [Act.put, List.setIfInBounds_toArray, List.set_cons_zero, List.set_cons_succ]
            refine wpAnyH_take (i := 4) (oi := { dst := some 57, op := Op.load 42 (Operand.tmp 56), type := 42, pos := "ref.go:106", after := #[{ on := 3, ground := Ground.data }], guard := none }) (v := .agg (bv pk).toArray) rfl (by kernel_rfl) (by kernel_rfl) (by kernel_rfl) (fun _ _ _ h => h) (yieldsIf_load_mid (by rfl) 42 (.tmp 56) rfl pb (po + k * 32) rfl (bv pk) _ (fun W h => CQ.elem h hk1 hlt) Tryd.underlying42 rfl hdp) hk ?_
            simp only [Act.put, List.setIfInBounds_toArray, List.set_cons_zero, List.set_cons_succ]
            refine wpAnyH_take (i := 5) (oi := { dst := some 58, op := Op.move (Operand.tmp 5), type := 3, pos := "ref.go:106", after := #[], guard := none }) (v := ?vrchk24) rfl (by kernel_rfl) (by kernel_rfl) (by kernel_rfl) (fun _ _ _ h => h) (Or.inl ⟨by rfl, ?yrchk24⟩) hk ?rrchk24
            case yrchk24 => (intro w hSw; (try dsimp only at hSw); go_simp; first | done | with_reducible rfl)
            simp only [Act.put, List.setIfInBounds_toArray, List.set_cons_zero, List.set_cons_succ]
            refine wpAnyH_ready (rs := [0]) (by decide +kernel) (by simp) ?_
            refine AllReadyH.cons (o := { dst := some 53, op := Op.load 42 (Operand.tmp 14), type := 42, pos := "ref.go:106", after := #[], guard := none }) rfl (fun K hK => ?_) AllReadyH.nil
            rw [if_pos (by rfl)]
            refine wp_load_mid 42 (.tmp 14) rfl V 0 rfl (bv d) _ (range_row hv) Tryd.underlying42 rfl hdd ?_
            simp only [Act.put, List.setIfInBounds_toArray, List.set_cons_zero, List.set_cons_succ]
            refine hK.out _ _ hk (fun _ => ?_)
            clear hK K
            try simp only [Act.put, List.setIfInBounds_toArray, List.set_cons_zero, List.set_cons_succ]
            refine wpAnyH_ready (rs := [6]) (by decide +kernel) (by simp) ?_
            refine AllReadyH.cons (o := { dst := some 59, op := Op.call { callee := Callee.value (Operand.func 50), args := #[Operand.tmp 53, Operand.tmp 57, Operand.tmp 58], argTypes := #[42, 42, 3] }, type := 42, pos := "ref.go:106", after := #[{ on := 0, ground := Ground.data }, { on := 4, ground := Ground.data }, { on := 5, ground := Ground.data }], guard := none }) rfl (fun K hK => ?_) AllReadyH.nil
            go_simp
            refine (HND.out _).mono ?_
            rintro e1 w6 ⟨rfl, hb1⟩
            replace hv := (hb1.block V hk.lt).trans hv
            replace hk := hk.step hb1
            clear hb1
            refine hK.out _ _ hk (fun _ => ?_)
            clear hK K
            try simp only [Act.put, List.setIfInBounds_toArray, List.set_cons_zero, List.set_cons_succ]
            refine wpAnyH_ready (rs := [7]) (by decide +kernel) (by simp) ?_
            refine AllReadyH.cons (o := { dst := none, op := Op.store 42 (Operand.tmp 14) (Operand.tmp 59), type := 0, pos := "ref.go:106", after := #[{ on := 6, ground := Ground.data }, { on := 6, ground := Ground.chain }, { on := 0, ground := Ground.phase }, { on := 1, ground := Ground.phase }, { on := 2, ground := Ground.phase }, { on := 3, ground := Ground.phase }, { on := 4, ground := Ground.phase }, { on := 5, ground := Ground.phase }, { on := 6, ground := Ground.phase }], guard := none }) rfl (fun K hK => ?_) AllReadyH.nil
            rw [if_pos (by rfl)]
            refine wp_store_mid 42 (.tmp 14) (.tmp 59) rfl V 0 (bv Z).toArray rfl rfl ?htrchk26 HZI.out HZO.out ?_
            case htrchk26 => exact cq_there hv hd.1 hZd.1
            replace hv := heap_stored (vs := (bv Z).toArray) hv (by rw [List.size_toArray, List.size_toArray, bv_length, bv_length, hd.1, hZd.1])
            replace hk := hk.store hV pf sf (bv Z).toArray.toList
            simp only [Act.put]
            refine hK.out _ _ hk (fun _ => ?_)
            clear hK K
            try simp only [Act.put, List.setIfInBounds_toArray, List.set_cons_zero, List.set_cons_succ]
            refine wpAnyH_done (by decide +kernel) ?_ _
            clear hcell
            go_wp2
            go_roundw
            case rel => exact ⟨k + 1, by omega, by go_num, by rw [← HSV.out]; exact hk, by rw [HNX.out]; exact hv⟩
            case measure => simp [intOf]; omega
        · have HE : Bx (SL.reverse.take k = SL.reverse ∧ P.take k = P) := ⟨List.take_of_length_le (by rw [List.length_reverse]; omega), List.take_of_length_le (by omega)⟩
          rw [HE.out.1, HE.out.2] at hrow hd
          have hcmp := dig_cmp _ root hd.1 hr.1
          have HQ := HU.out _ rfl
          generalize upL x SL.reverse P leaf = d at hrow hd hcmp HQ
          have HDI : Bx ((Tryd.prog.info? 42).map (·.size) = some (bv d).toArray.size) := ⟨by rw [List.size_toArray, bv_length, hd.1]; exact dig_info⟩
          have HRW : Bx _ := ⟨hrow⟩
          have HRT : Bx _ := ⟨hCQ.rt⟩
          have hlow := hCQ.low
          have HQB : Bx _ := ⟨HQ⟩
          generalize decide (d = root) = q at hcmp HQB
          generalize (bv d).toArray = DD at hcmp HRW HDI
          generalize (bv root).toArray = DT at hcmp HRT HIR ⊢
          clear HE HU hCQ hrow HQ
          go_wp2_with (first
            | (refine wpList_load_row rfl 42 (.tmp 14) rfl V rfl 42 DD (0, 0) _ HRW.out Tryd.underlying42 rfl HDI.out ?_)
            | (refine wpList_load_row rfl 42 (.tmp 6) rfl w.heap.size rfl 42 DT (0, 0) _ HRT.out Tryd.underlying42 rfl HIR.out ?_))
          go_ret
          exact ⟨ret_bool HQB.out, hlow⟩
    · have HU : Bx (false = chkP root (m : Int) (j : Int) leaf P x) := ⟨by rw [HCH.out, decide_eq_false (show ¬ SL.length = P.length by omega), Bool.false_and]⟩
      have hne : ((SL.length : Int) != (len : Int)) = true := by simp; omega
      clear HCH hP hrt1 hlf1 hown1
      go_wp2
      go_ret
      exact ⟨ret_bool HU.out, hlow1⟩
  · have HCH : Bx (chkP root n i leaf P x = false) := ⟨by unfold chkP; rw [decide_eq_false hin, Bool.false_and]⟩
    rw [HCH.out]
    clear hrt0 hlf0 HCH hP
    by_cases h0 : i < 0
    · have h1 : decide (i < 0) = true := by simpa using h0
      clear hin
      go_enter Tryd.func42, Tryd.ntmps42
      go_wp2
      go_ret
      exact ⟨rfl, hb0⟩
    · have h1 : decide (i < 0) = false := by simpa using h0
      have h2 : decide (i ≥ n) = true := by simp; omega
      clear hin
      go_enter Tryd.func42, Tryd.ntmps42
      go_wp2
      go_ret
      exact ⟨rfl, hb0⟩
end Go.Proofs.YtfkloilbjfleeaaDoor
