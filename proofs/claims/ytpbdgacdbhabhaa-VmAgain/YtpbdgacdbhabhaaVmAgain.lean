/- VmAgain: a machine has no memory: whatever was done between, the same call answers the same, and so does another machine of the code. -/
import Derived.Test.YtpbdgacdbhabhaaRows
import Derived.Test.YtpbdgacdbhabhaaCallIn
import Derived.Test.YtpbdgacdbhabhaaVAgain
import Derived.Test.YtpbdgacdbhabhaaCFew
import Derived.WalkKit
import Derived.ProofKit
import Derived.OpenShut
import Derived.ShutString
import Derived.ChangeOld
import Derived.Below
namespace Go.Proofs.Ytpbdgacdbhabhaa.vmAgain
open Go.ChangeShapes Go.WideShapes Go.ChangeAt Go.RowKit
open Go.ChangeMaps (open_string shut_string)
set_option linter.unusedVariables false

theorem own : ownKnob Try.prog.godebug = none := by kernel_rfl
theorem laidOut : laidOutB Try.prog = true := by kernel_rfl

theorem cals_under : Try.prog.underlying 46 = some (.slice (Try.prog.elem 46)) := by kernel_rfl
theorem cals_size (w : World) : (sizeOf (Try.prog.elem 46)).run Try.prog w = .ok 7 w := by kernel_rfl
theorem cals_cut (g off len cap q : Nat) (hq : q ≤ cap) (w : World) : (Instr.sliceAt 46 (.slice (some ⟨g, off, none⟩) len cap) none (some (.int .i64 q)) none).run Try.prog w = .ok (.slice (some ⟨g, off, none⟩) q cap) w := by
  rw [run_sliceAt_slice w _ _ _ _ _ cals_under, run_slice_h w _ _ len cap cals_under .i64 q (by omega) (by omega), cals_size]
  simp [sliced, Addr.add_lit]
theorem ag_mc {L : List Ic} {gm gc cc N : Nat} {W W' : World} {v : Value} (h : Mc W gm gc cc L) (hg : W.grownBy W' v.ownBlock) (hv : ∀ k, v.ownBlock = some k → N ≤ k) (hn : gm < N ∧ gc < N) : Mc W' gm gc cc L :=
  h.keep (hg.block gm h.lt.1 (fun e => by have := hv gm e.symm; omega)) (hg.block gc h.lt.2 (fun e => by have := hv gc e.symm; omega)) hg.size
theorem ag_grow {Q : World → Prop} {gb N : Nat} {c : Cl} {w W W' : World} {v : Value} (h : CX Q gb c w W) (hg : W.grownBy W' v.ownBlock) (hv : ∀ k, v.ownBlock = some k → N ≤ k) (hn : w.heap.size ≤ N ∧ ∀ k, v.ownBlock = some k → k ≠ gb) (hq : Q W') : CX Q gb c w W' :=
  ⟨h.low.grown hg h.low.size (fun k hk => Nat.le_trans hn.1 (hv k hk)), (hg.block gb (Array.getElem?_eq_some_iff.1 h.row).1 (fun e => hn.2 gb e.symm rfl)).trans h.row, h.up, hq⟩

set_option maxRecDepth 100000 in
set_option maxHeartbeats 8000000 in
theorem walk (a0 : Option Addr) (len0 cap0 : Nat) (l : List Ic) (a1 : Option Addr) (len1 cap1 : Nat) (C0 : List Cl) (w : World) (hl : IcsI w a0 len0 cap0 l) (hC0 : ClsI w a1 len1 cap1 C0) :
    Calls Try.prog 5 #[.slice a0 len0 cap0, .slice a1 len1 cap1] w fun e w' => e = .returned (.bool true) ∧ Below w.heap.size w w' := by
  have HL := Bx.mk hl.1
  have HLK := Bx.mk hl.2
  have HCL := Bx.mk hC0.1
  have HCK0 := Bx.mk hC0.2
  clear hl hC0
  go_enter Try.func5, Try.ntmps5
  go_wp2_with fail
  refine (few15_any a0 len0 cap0 l _ HL.out).mono ?_
  rintro e w1 ⟨v1, rfl, ho1, hb1⟩
  obtain ⟨L, HLL⟩ : ∃ L, Bx (l.take 210 = L) := ⟨_, ⟨rfl⟩⟩
  have HIK : Bx (IcsK L) := ⟨by rw [← HLL.out]; exact HLK.out.take 210⟩
  rw [HLL.out] at ho1
  obtain ⟨a2, c2, rfl, hE1⟩ := Ls.of_owns icC_len ho1 rfl
  have HE1 := Bx.mk hE1
  have HB1 := Bx.mk hb1
  clear ho1 hE1 hb1 HL HLK HLL
  go_wp2_with fail
  by_cases hok : (thr L).2.2 = 0
  · have HOK := Bx.mk hok
    refine (vnew_yes _ _ _ _ _ HE1.out hok).mono ?_
    rintro e w2 ⟨gm, gc, cc, rfl, hm2, _, _, hb2⟩
    have HM2 := Bx.mk hm2
    have HE2 := Bx.mk (HE1.out.below hb2)
    have HB2 := Bx.mk (bstep HB1.out hb2)
    clear hm2 hb2 HE1 HB1
    go_wp2_with fail
    refine (vnew_yes _ _ _ _ _ HE2.out hok).mono ?_
    rintro e wN ⟨gn, gd, cd, rfl, hm3, _, _, hb3⟩
    have HM3 := Bx.mk (HM2.out.below hb3)
    have HN3 := Bx.mk hm3
    have HB3 := Bx.mk (bstep HB2.out hb3)
    have HCL3 := Bx.mk (HCL.out.below HB3.out)
    have hcm := HCL.out.cap_le
    have hclc := HCL.out.le_cap
    unfold maxLen at hcm
    clear hm3 hb3 HE2 HB2 HM2 hok HCL
    go_upto_if 49 with fail
    go_cut [1] from 50 to 51 (fun s1 wx => ∃ (n : Nat) (C : List Cl), s1 = .slice a1 n cap1 ∧ n ≤ 8 ∧ wN = wx ∧ Bx (Ls clC 7 wx a1 n cap1 C) ∧ Bx (∀ c ∈ C, ClK c))
    case first =>
      by_cases hbig : 8 < len1
      · have hbI : (8 : Int) < (len1 : Int) := by omega
        obtain ⟨b, off, rfl, _, _⟩ := HCL3.out.spot (by omega)
        have hsl := cals_cut b off len1 cap1 8 (by omega)
        have HT := Bx.mk (HCL3.out.take 8 (by omega))
        have HTK : Bx (∀ c ∈ C0.take 8, ClK c) := ⟨fun c hc => HCK0.out c (List.mem_of_mem_take hc)⟩
        go_wp2_with fail
        go_meet
        case rel => exact ⟨8, C0.take 8, rfl, by omega, rfl, HT, HTK⟩
      · have hbI : ¬ (8 : Int) < (len1 : Int) := by omega
        go_wp2_with fail
        go_meet
        case rel => exact ⟨len1, C0, rfl, by omega, rfl, HCL3, HCK0⟩
    case rest =>
      obtain ⟨n, C, rfl, hn8, hwx, HCC, HCKA⟩ := hcut
      subst hwx
      clear HCL3 HCK0 hcm hclc
      have HLC : Bx (C.length = n) := ⟨HCC.out.len_eq⟩
      obtain ⟨N, HN⟩ : ∃ N, Bx (N = wN.heap.size) := ⟨_, ⟨rfl⟩⟩
      have HGN : Bx ((gm < N ∧ gc < N) ∧ gn < N ∧ gd < N) := ⟨by rw [HN.out]; exact ⟨HM3.out.lt, HN3.out.lt⟩⟩
      have HWLE : Bx (w.heap.size ≤ N) := ⟨by rw [HN.out]; exact HB3.out.size⟩
      go_wp2_with fail
      go_loopw [9, 10] (fun v i wr => ∃ m : Nat, m ≤ n ∧ i = .int .i64 m ∧ Bx (wr.ownsRow N 38 7 v m ((C.take m).flatMap (stN L))) ∧ Bx (Below N wN wr)) (fun _ i _ => n - (intOf i).toNat)
      case atStart => exact ⟨0, Nat.zero_le _, rfl, ⟨World.ownsRow_nil _ _ _ _⟩, ⟨Below.refl _ _⟩⟩
      case round =>
        obtain ⟨m, hm, rfl, HOW, HBR⟩ := hrel
        obtain ⟨vF, hvF⟩ : ∃ x, x = u9 := ⟨_, rfl⟩
        subst hvF
        have HBR' : Bx (Below wN.heap.size wN wr) := ⟨by rw [← HN.out]; exact HBR.out⟩
        by_cases hlt : m < n
        · have hmI : (m : Int) < (n : Int) := by omega
          have hmd : decide (m < n) = true := by simpa using hlt
          obtain ⟨b, off, rfl, _, y0, y1, y2, y3, y4, y5, y6⟩ := (HCC.out.below HBR'.out).cl m hlt
          have HCK : Bx (ClK (C.getD m cl0)) := ⟨getD_cl HCKA.out m (by rw [HLC.out]; exact hlt)⟩
          have HTK : Bx (C.take (m + 1) = C.take m ++ [C.getD m cl0]) := ⟨take_cl C m (by rw [HLC.out]; exact hlt)⟩
          obtain ⟨c, HCM⟩ : ∃ c, Bx (C.getD m cl0 = c) := ⟨_, ⟨rfl⟩⟩
          rw [HCM.out] at y0 y1 y2 y3 y4 y5 y6 HCK HTK
          obtain ⟨kd, z0, z1, z2, z3, rt, us, hsn, hst⟩ := stN_form HOK.out c
          have HSN := Bx.mk hsn
          have HST := Bx.mk hst
          clear hsn hst
          obtain ⟨gb, HGB⟩ : ∃ gb, Bx (gb = wr.heap.size) := ⟨_, ⟨rfl⟩⟩
          have HVB : Bx (∀ k, vF.ownBlock = some k → N ≤ k) := ⟨fun k hk => (HOW.out.lt k hk).1⟩
          have HWN : Bx (wN.heap.size ≤ N ∧ ∀ k, vF.ownBlock = some k → k ≠ gb) := ⟨by rw [HN.out]; exact Nat.le_refl _, fun k hk => by have := (HOW.out.lt k hk).2; have := HGB.out; omega⟩
          have hba : Below wr.heap.size wr (wr.alloc (.cells #[.int .i64 c.s0, .int .i64 c.s1, .int .i64 c.s2, .int .i64 c.s3, .int .i64 c.k, .int .i64 c.f, .int .i64 c.g] 26)) := (Below.refl _ _).alloc (Nat.le_refl _) _
          obtain ⟨Qa, HQ0⟩ : ∃ Qa : World → Prop, Bx (Qa = fun W => Mc W gm gc cc L ∧ Mc W gn gd cd L ∧ N ≤ W.heap.size) := ⟨_, ⟨rfl⟩⟩
          have HQM : Bx (∀ W, Qa W → Mc W gm gc cc L ∧ Mc W gn gd cd L ∧ N ≤ W.heap.size) := ⟨fun W h => by rw [HQ0.out] at h; exact h⟩
          have HQI : Bx (∀ W, Mc W gm gc cc L → Mc W gn gd cd L → N ≤ W.heap.size → Qa W) := ⟨fun W h1 h2 h3 => by rw [HQ0.out]; exact ⟨h1, h2, h3⟩⟩
          have HNR : Bx (N ≤ wr.heap.size) := ⟨by rw [HN.out]; exact HBR'.out.size⟩
          have HCX : Bx (CX Qa gb c wN (wr.alloc (.cells #[.int .i64 c.s0, .int .i64 c.s1, .int .i64 c.s2, .int .i64 c.s3, .int .i64 c.k, .int .i64 c.f, .int .i64 c.g] 26))) := ⟨⟨bstep HBR'.out hba, by rw [HGB.out]; exact heap_alloc_new _ _, by rw [HQ0.out]; exact up_mc.and (up_mc.and up_size), HQI.out _ ((HM3.out.below HBR'.out).below hba) ((HN3.out.below HBR'.out).below hba) (Nat.le_trans HNR.out hba.size)⟩⟩
          have HOA := Bx.mk (owns_below HOW.out hba)
          have HBA : Bx (Below N wN (wr.alloc (.cells #[.int .i64 c.s0, .int .i64 c.s1, .int .i64 c.s2, .int .i64 c.s3, .int .i64 c.k, .int .i64 c.f, .int .i64 c.g] 26))) := ⟨HBR.out.alloc HNR.out _⟩
          clear hba HQ0 HOW HBR
          go_upto_region 13 with fail
          rw [← HGB.out]
          generalize wr.alloc (.cells #[.int .i64 c.s0, .int .i64 c.s1, .int .i64 c.s2, .int .i64 c.s3, .int .i64 c.k, .int .i64 c.f, .int .i64 c.g] 26) = wa at HCX HOA HBA ⊢
          have hk : CX Qa gb c wN wa.drew := HCX.out.drew
          have hown : wa.drew.ownsRow N 38 7 vF m ((C.take m).flatMap (stN L)) := owns_below HOA.out (Below.refl _ _).drew
          clear y0 y1 y2 y3 y4 y5 y6 HCX HOA
          refine wp_region_held_drew (S := fun W => CX Qa gb c wN W) (by kernel_rfl) hk (fun _ => ?_)
          generalize wa.drew = wk at hk hown ⊢
          refine wpAnyH_take (i := 0) (oi := { dst := some 62, op := Op.move (Operand.tmp 9), type := 47, pos := "law.go:75", after := #[], guard := none }) (v := ?vvag131) rfl (by kernel_rfl) (by kernel_rfl) (by kernel_rfl) (fun _ _ _ h => h) (Or.inl ⟨by rfl, ?yvag131⟩) hk ?rvag131
          case yvag131 => (intro w hSw; (try dsimp only at hSw); go_simp; first | done | with_reducible rfl)
          simp only [Act.put, List.setIfInBounds_toArray, List.set_cons_zero, List.set_cons_succ]
          refine wpAnyH_take (i := 1) (oi := { dst := some 63, op := Op.move (Operand.tmp 5), type := 28, pos := "law.go:75", after := #[], guard := none }) (v := ?vvag132) rfl (by kernel_rfl) (by kernel_rfl) (by kernel_rfl) (fun _ _ _ h => h) (Or.inl ⟨by rfl, ?yvag132⟩) hk ?rvag132
          case yvag132 => (intro w hSw; (try dsimp only at hSw); go_simp; first | done | with_reducible rfl)
          simp only [Act.put, List.setIfInBounds_toArray, List.set_cons_zero, List.set_cons_succ]
          refine wpAnyH_take (i := 2) (oi := { dst := some 64, op := Op.fieldAddr 26 (Operand.tmp 11) 0, type := 0, pos := "law.go:75", after := #[], guard := none }) (v := ?vvag133) rfl (by kernel_rfl) (by kernel_rfl) (by kernel_rfl) (fun _ _ _ h => h) (Or.inl ⟨by rfl, ?yvag133⟩) hk ?rvag133
          case yvag133 => (intro w hSw; (try dsimp only at hSw); go_simp; first | done | with_reducible rfl)
          simp only [Act.put, List.setIfInBounds_toArray, List.set_cons_zero, List.set_cons_succ]
          refine wpAnyH_take (i := 3) (oi := { dst := some 65, op := Op.load 24 (Operand.tmp 64), type := 24, pos := "law.go:75", after := #[{ on := 2, ground := Ground.data }], guard := none }) (v := .agg #[.int .i64 c.s0, .int .i64 c.s1, .int .i64 c.s2, .int .i64 c.s3]) rfl (by kernel_rfl) (by kernel_rfl) (by kernel_rfl) (fun _ _ _ h => h) (Or.inl ⟨by rfl, ?yvag134⟩) hk ?rvag134
          case yvag134 => (intro w hSw; have q0 := hSw.c0; have q1 := hSw.c1; have q2 := hSw.c2; have q3 := hSw.c3; have q4 := hSw.c4; have q5 := hSw.c5; have q6 := hSw.c6; clear hSw; go_simp; first | done | with_reducible rfl)
          simp only [Act.put, List.setIfInBounds_toArray, List.set_cons_zero, List.set_cons_succ]
          refine wpAnyH_take (i := 4) (oi := { dst := some 66, op := Op.fieldAddr 26 (Operand.tmp 11) 1, type := 0, pos := "law.go:75", after := #[], guard := none }) (v := ?vvag135) rfl (by kernel_rfl) (by kernel_rfl) (by kernel_rfl) (fun _ _ _ h => h) (Or.inl ⟨by rfl, ?yvag135⟩) hk ?rvag135
          case yvag135 => (intro w hSw; (try dsimp only at hSw); go_simp; first | done | with_reducible rfl)
          simp only [Act.put, List.setIfInBounds_toArray, List.set_cons_zero, List.set_cons_succ]
          refine wpAnyH_take (i := 5) (oi := { dst := some 67, op := Op.load 3 (Operand.tmp 66), type := 3, pos := "law.go:75", after := #[{ on := 4, ground := Ground.data }], guard := none }) (v := ?vvag136) rfl (by kernel_rfl) (by kernel_rfl) (by kernel_rfl) (fun _ _ _ h => h) (Or.inl ⟨by rfl, ?yvag136⟩) hk ?rvag136
          case yvag136 => (intro w hSw; have hcw := hSw.c4; clear hSw; go_simp; first | done | with_reducible rfl)
          simp only [Act.put, List.setIfInBounds_toArray, List.set_cons_zero, List.set_cons_succ]
          refine wpAnyH_take (i := 6) (oi := { dst := some 68, op := Op.fieldAddr 26 (Operand.tmp 11) 3, type := 0, pos := "law.go:75", after := #[], guard := none }) (v := ?vvag137) rfl (by kernel_rfl) (by kernel_rfl) (by kernel_rfl) (fun _ _ _ h => h) (Or.inl ⟨by rfl, ?yvag137⟩) hk ?rvag137
          case yvag137 => (intro w hSw; (try dsimp only at hSw); go_simp; first | done | with_reducible rfl)
          simp only [Act.put, List.setIfInBounds_toArray, List.set_cons_zero, List.set_cons_succ]
          refine wpAnyH_take (i := 7) (oi := { dst := some 69, op := Op.load 2 (Operand.tmp 68), type := 2, pos := "law.go:75", after := #[{ on := 6, ground := Ground.data }], guard := none }) (v := ?vvag138) rfl (by kernel_rfl) (by kernel_rfl) (by kernel_rfl) (fun _ _ _ h => h) (Or.inl ⟨by rfl, ?yvag138⟩) hk ?rvag138
          case yvag138 => (intro w hSw; have hcw := hSw.c6; clear hSw; go_simp; first | done | with_reducible rfl)
          simp only [Act.put, List.setIfInBounds_toArray, List.set_cons_zero, List.set_cons_succ]
          refine wpAnyH_take (i := 8) (oi := { dst := some 70, op := Op.load 26 (Operand.tmp 11), type := 26, pos := "law.go:75", after := #[], guard := none }) (v := .agg #[.int .i64 c.s0, .int .i64 c.s1, .int .i64 c.s2, .int .i64 c.s3, .int .i64 c.k, .int .i64 c.f, .int .i64 c.g]) rfl (by kernel_rfl) (by kernel_rfl) (by kernel_rfl) (fun _ _ _ h => h) (Or.inl ⟨by rfl, ?yvag139⟩) hk ?rvag139
          case yvag139 => (intro w hSw; have q0 := hSw.c0; have q1 := hSw.c1; have q2 := hSw.c2; have q3 := hSw.c3; have q4 := hSw.c4; have q5 := hSw.c5; have q6 := hSw.c6; clear hSw; go_simp; first | done | with_reducible rfl)
          simp only [Act.put, List.setIfInBounds_toArray, List.set_cons_zero, List.set_cons_succ]
          refine wpAnyH_ready (rs := [9]) (by decide +kernel) (by simp) ?_
          refine AllReadyH.cons (o := { dst := some 71, op := Op.call { callee := Callee.value (Operand.func 14), args := #[Operand.tmp 70], argTypes := #[26] }, type := 3, pos := "law.go:75", after := #[{ on := 8, ground := Ground.data }], guard := none }) rfl (fun K hK => ?_) AllReadyH.nil
          go_simp
          refine (fuel_any c _).mono ?_
          rintro e1 wk ⟨rfl, hb1⟩
          replace hk := hk.step hb1
          replace hown := owns_below hown hb1
          clear hb1
          refine hK.out _ _ hk (fun _ => ?_)
          clear hK K
          try simp only [Act.put, List.setIfInBounds_toArray, List.set_cons_zero, List.set_cons_succ]
          refine wpAnyH_ready (rs := [10]) (by decide +kernel) (by simp) ?_
          refine AllReadyH.cons (o := { dst := some 72, op := Op.call { callee := Callee.value (Operand.func 13), args := #[Operand.tmp 63, Operand.tmp 65, Operand.tmp 67, Operand.tmp 69, Operand.tmp 71], argTypes := #[28, 24, 3, 2, 3] }, type := 38, pos := "law.go:75", after := #[{ on := 1, ground := Ground.data }, { on := 3, ground := Ground.data }, { on := 5, ground := Ground.data }, { on := 7, ground := Ground.data }, { on := 9, ground := Ground.data }, { on := 9, ground := Ground.chain }], guard := none }) rfl (fun K hK => ?_) AllReadyH.nil
          go_simp
          refine (step_any gm gc cc L c.s0 c.s1 c.s2 c.s3 c.k c.g (fuC c) _ (HQM.out _ hk.q).1 HIK.out HCK.out.s HCK.out.k HCK.out.g (fuC_in c)).mono ?_
          rintro e1 wk ⟨rfl, hb1⟩
          rw [HST.out]
          replace hk := hk.step hb1
          replace hown := owns_below hown hb1
          clear hb1
          refine hK.out _ _ hk (fun _ => ?_)
          clear hK K
          try simp only [Act.put, List.setIfInBounds_toArray, List.set_cons_zero, List.set_cons_succ]
          refine wpAnyH_ready (rs := [11]) (by decide +kernel) (by simp) ?_
          refine AllReadyH.cons (o := { dst := some 73, op := Op.buildSlice 47 1 #[(0, Operand.tmp 72)], type := 47, pos := "law.go:75", after := #[{ on := 10, ground := Ground.data }], guard := none }) rfl (fun K hK => ?_) AllReadyH.nil
          go_simp
          have hnw := World.news_of_block (heap_alloc_new wk (.cells #[.int .i64 kd, .int .i64 z0, .int .i64 z1, .int .i64 z2, .int .i64 z3, .int .i64 rt, .int .i64 us] 38))
          have hbA : Below wk.heap.size wk (wk.alloc (.cells #[.int .i64 kd, .int .i64 z0, .int .i64 z1, .int .i64 z2, .int .i64 z3, .int .i64 rt, .int .i64 us] 38)) := (Below.refl _ _).alloc (Nat.le_refl _) _
          replace hk := hk.step hbA
          replace hown := owns_below hown hbA
          clear hbA
          generalize wk.heap.size = gn1 at hnw ⊢
          generalize wk.alloc (.cells #[.int .i64 kd, .int .i64 z0, .int .i64 z1, .int .i64 z2, .int .i64 z3, .int .i64 rt, .int .i64 us] 38) = wk at hnw hk hown ⊢
          refine hK.out _ _ hk (fun _ => ?_)
          clear hK K
          try simp only [Act.put, List.setIfInBounds_toArray, List.set_cons_zero, List.set_cons_succ]
          refine wpAnyH_ready (rs := [12]) (by decide +kernel) (by simp) ?_
          refine AllReadyH.cons (o := { dst := some 74, op := Op.call { callee := Callee.builtin Builtin.append, args := #[Operand.tmp 62, Operand.tmp 73], argTypes := #[47, 47] }, type := 47, pos := "law.go:75", after := #[{ on := 0, ground := Ground.data }, { on := 11, ground := Ground.data }, { on := 10, ground := Ground.chain }], guard := none }) rfl (fun K hK => ?_) AllReadyH.nil
          rw [if_pos (by rfl)]
          refine wp_append_st HOK.out (.tmp 62) (.tmp 73) rfl N m vF (C.take m) rfl hown ⟨gn1, 0, none⟩ c rfl (by rw [HSN.out]; exact hnw) (by omega) (HQM.out _ hk.q).2.2 ?_
          intro vG w8 hown8 hgr8
          replace hk : CX Qa gb c wN w8 := ag_grow hk hgr8 HVB.out HWN.out (HQI.out _ (ag_mc (HQM.out _ hk.q).1 hgr8 HVB.out HGN.out.1) (ag_mc (HQM.out _ hk.q).2.1 hgr8 HVB.out HGN.out.2) (Nat.le_trans (HQM.out _ hk.q).2.2 hgr8.size))
          clear hown hnw hgr8
          refine hK.out _ _ hk (fun _ => ?_)
          clear hK K
          try simp only [Act.put, List.setIfInBounds_toArray, List.set_cons_zero, List.set_cons_succ]
          refine wpAnyH_take (i := 13) (oi := { dst := some 9, op := Op.assign (Operand.tmp 74), type := 47, pos := "law.go:75", after := #[{ on := 12, ground := Ground.data }, { on := 12, ground := Ground.chain }, { on := 0, ground := Ground.phase }, { on := 1, ground := Ground.phase }, { on := 2, ground := Ground.phase }, { on := 3, ground := Ground.phase }, { on := 4, ground := Ground.phase }, { on := 5, ground := Ground.phase }, { on := 6, ground := Ground.phase }, { on := 7, ground := Ground.phase }, { on := 8, ground := Ground.phase }, { on := 9, ground := Ground.phase }, { on := 10, ground := Ground.phase }, { on := 11, ground := Ground.phase }, { on := 12, ground := Ground.phase }], guard := none }) (v := ?vvag1311) rfl (by kernel_rfl) (by kernel_rfl) (by kernel_rfl) (fun _ _ _ h => h) (Or.inl ⟨by rfl, ?yvag1311⟩) hk ?rvag1311
          case yvag1311 => (intro w hSw; (try dsimp only at hSw); go_simp; first | done | with_reducible rfl)
          simp only [Act.put, List.setIfInBounds_toArray, List.set_cons_zero, List.set_cons_succ]
          refine wpAnyH_done (by decide +kernel) ?_ _
          have HO8 : Bx (w8.ownsRow N 38 7 vG (m + 1) ((C.take (m + 1)).flatMap (stN L))) := ⟨by rw [HTK.out]; exact hown8⟩
          have HB8 : Bx (Below N wN w8) := ⟨by rw [HN.out]; exact hk.low⟩
          clear hown8 hk
          go_wp2_with fail
          go_roundw
          case rel => exact ⟨m + 1, by omega, by go_num, HO8, HB8⟩
          case measure => simp [intOf]; omega
        · have hmI : ¬ (m : Int) < (n : Int) := by omega
          have hmd : decide (m < n) = false := by simp; omega
          obtain rfl : m = n := by omega
          have HTA : Bx (C.take m = C) := ⟨List.take_of_length_le (by rw [HLC.out]; exact Nat.le_refl _)⟩
          rw [HTA.out] at HOW
          obtain ⟨aF, cF, rfl, hLF⟩ := Ls.of_owns (stN_len HOK.out) HOW.out HLC.out
          obtain ⟨wo, hwo⟩ : ∃ wo, wo = wr := ⟨_, rfl⟩
          subst hwo
          have HLF := Bx.mk hLF
          have HMO := Bx.mk (HM3.out.below HBR'.out)
          have HNO := Bx.mk (HN3.out.below HBR'.out)
          have HCO := Bx.mk (HCC.out.below HBR'.out)
          have HBO := Bx.mk (bstep HB3.out HBR'.out)
          clear hLF HOW HM3 HN3 HCC HB3 HBR HBR'
          go_wp2_with fail
          go_loopw [12] (fun i wx => ∃ i0 : Int, i = .int .i64 i0 ∧ -1 ≤ i0 ∧ i0 < (m : Int) ∧ Bx (Below wo.heap.size wo wx)) (fun i _ => (intOf i + 1).toNat)
          case atStart => exact ⟨(m : Int) - 1, rfl, by omega, by omega, ⟨Below.refl _ _⟩⟩
          case round =>
            obtain ⟨i0, rfl, hi1, hi2, HBW⟩ := hrel
            by_cases hi0 : 0 ≤ i0
            · obtain ⟨q, rfl⟩ : ∃ q : Nat, i0 = (q : Int) := ⟨i0.toNat, by omega⟩
              have hlt : q < m := by omega
              have hmI2 : (q : Int) < (m : Int) := by omega
              obtain ⟨b, off, rfl, _, y0, y1, y2, y3, y4, y5, y6⟩ := (HCO.out.below HBW.out).cl q hlt
              have HCK : Bx (ClK (C.getD q cl0)) := ⟨getD_cl HCKA.out q (by rw [HLC.out]; exact hlt)⟩
              obtain ⟨bF, oF, rfl, _, _⟩ := HLF.out.spot (by omega)
              obtain ⟨kd, z0, z1, z2, z3, rt, us, hsn, hst⟩ := stN_form HOK.out (C.getD q cl0)
              have HSN := Bx.mk hsn
              obtain ⟨c, HCM⟩ : ∃ c, Bx (C.getD q cl0 = c) := ⟨_, ⟨rfl⟩⟩
              rw [HCM.out] at y0 y1 y2 y3 y4 y5 y6 HCK hst
              have HST := Bx.mk hst
              have heq := step_eq kd z0 z1 z2 z3 rt us
              clear hsn hst
              obtain ⟨gb, HGB⟩ : ∃ gb, Bx (gb = wr.heap.size) := ⟨_, ⟨rfl⟩⟩
              have hba : Below wr.heap.size wr (wr.alloc (.cells #[.int .i64 c.s0, .int .i64 c.s1, .int .i64 c.s2, .int .i64 c.s3, .int .i64 c.k, .int .i64 c.f, .int .i64 c.g] 26)) := (Below.refl _ _).alloc (Nat.le_refl _) _
              obtain ⟨Qb, HQ0⟩ : ∃ Qb : World → Prop, Bx (Qb = fun W => Mc W gm gc cc L ∧ Mc W gn gd cd L ∧ Ls (stN L) 7 W (some ⟨bF, oF, none⟩) m cF C) := ⟨_, ⟨rfl⟩⟩
              have HQM : Bx (∀ W, Qb W → Mc W gm gc cc L ∧ Mc W gn gd cd L ∧ Ls (stN L) 7 W (some ⟨bF, oF, none⟩) m cF C) := ⟨fun W h => by rw [HQ0.out] at h; exact h⟩
              have HCX : Bx (CX Qb gb c wo (wr.alloc (.cells #[.int .i64 c.s0, .int .i64 c.s1, .int .i64 c.s2, .int .i64 c.s3, .int .i64 c.k, .int .i64 c.f, .int .i64 c.g] 26))) := ⟨⟨bstep HBW.out hba, by rw [HGB.out]; exact heap_alloc_new _ _, by rw [HQ0.out]; exact up_mc.and (up_mc.and (fun W W' h hb => h.below hb)), by rw [HQ0.out]; exact ⟨(HMO.out.below HBW.out).below hba, (HNO.out.below HBW.out).below hba, (HLF.out.below HBW.out).below hba⟩⟩⟩
              clear hba HQ0
              go_upto_region 18 with fail
              rw [← HGB.out]
              generalize wr.alloc (.cells #[.int .i64 c.s0, .int .i64 c.s1, .int .i64 c.s2, .int .i64 c.s3, .int .i64 c.k, .int .i64 c.f, .int .i64 c.g] 26) = wa at HCX ⊢
              have hk : CX Qb gb c wo wa.drew := HCX.out.drew
              clear y0 y1 y2 y3 y4 y5 y6 HCX
              refine wp_region_held_drew (S := fun W => CX Qb gb c wo W) (by kernel_rfl) hk (fun _ => ?_)
              generalize wa.drew = wk at hk ⊢
              refine wpAnyH_take (i := 0) (oi := { dst := some 86, op := Op.move (Operand.tmp 5), type := 28, pos := "law.go:79", after := #[], guard := none }) (v := ?vvag181) rfl (by kernel_rfl) (by kernel_rfl) (by kernel_rfl) (fun _ _ _ h => h) (Or.inl ⟨by rfl, ?yvag181⟩) hk ?rvag181
              case yvag181 => (intro w hSw; (try dsimp only at hSw); go_simp; first | done | with_reducible rfl)
              simp only [Act.put, List.setIfInBounds_toArray, List.set_cons_zero, List.set_cons_succ]
              refine wpAnyH_take (i := 1) (oi := { dst := some 87, op := Op.fieldAddr 26 (Operand.tmp 13) 0, type := 0, pos := "law.go:79", after := #[], guard := none }) (v := ?vvag182) rfl (by kernel_rfl) (by kernel_rfl) (by kernel_rfl) (fun _ _ _ h => h) (Or.inl ⟨by rfl, ?yvag182⟩) hk ?rvag182
              case yvag182 => (intro w hSw; (try dsimp only at hSw); go_simp; first | done | with_reducible rfl)
              simp only [Act.put, List.setIfInBounds_toArray, List.set_cons_zero, List.set_cons_succ]
              refine wpAnyH_take (i := 2) (oi := { dst := some 88, op := Op.load 24 (Operand.tmp 87), type := 24, pos := "law.go:79", after := #[{ on := 1, ground := Ground.data }], guard := none }) (v := .agg #[.int .i64 c.s0, .int .i64 c.s1, .int .i64 c.s2, .int .i64 c.s3]) rfl (by kernel_rfl) (by kernel_rfl) (by kernel_rfl) (fun _ _ _ h => h) (Or.inl ⟨by rfl, ?yvag183⟩) hk ?rvag183
              case yvag183 => (intro w hSw; have q0 := hSw.c0; have q1 := hSw.c1; have q2 := hSw.c2; have q3 := hSw.c3; have q4 := hSw.c4; have q5 := hSw.c5; have q6 := hSw.c6; clear hSw; go_simp; first | done | with_reducible rfl)
              simp only [Act.put, List.setIfInBounds_toArray, List.set_cons_zero, List.set_cons_succ]
              refine wpAnyH_take (i := 3) (oi := { dst := some 89, op := Op.fieldAddr 26 (Operand.tmp 13) 1, type := 0, pos := "law.go:79", after := #[], guard := none }) (v := ?vvag184) rfl (by kernel_rfl) (by kernel_rfl) (by kernel_rfl) (fun _ _ _ h => h) (Or.inl ⟨by rfl, ?yvag184⟩) hk ?rvag184
              case yvag184 => (intro w hSw; (try dsimp only at hSw); go_simp; first | done | with_reducible rfl)
              simp only [Act.put, List.setIfInBounds_toArray, List.set_cons_zero, List.set_cons_succ]
              refine wpAnyH_take (i := 4) (oi := { dst := some 90, op := Op.load 3 (Operand.tmp 89), type := 3, pos := "law.go:79", after := #[{ on := 3, ground := Ground.data }], guard := none }) (v := ?vvag185) rfl (by kernel_rfl) (by kernel_rfl) (by kernel_rfl) (fun _ _ _ h => h) (Or.inl ⟨by rfl, ?yvag185⟩) hk ?rvag185
              case yvag185 => (intro w hSw; have hcw := hSw.c4; clear hSw; go_simp; first | done | with_reducible rfl)
              simp only [Act.put, List.setIfInBounds_toArray, List.set_cons_zero, List.set_cons_succ]
              refine wpAnyH_take (i := 5) (oi := { dst := some 91, op := Op.fieldAddr 26 (Operand.tmp 13) 3, type := 0, pos := "law.go:79", after := #[], guard := none }) (v := ?vvag186) rfl (by kernel_rfl) (by kernel_rfl) (by kernel_rfl) (fun _ _ _ h => h) (Or.inl ⟨by rfl, ?yvag186⟩) hk ?rvag186
              case yvag186 => (intro w hSw; (try dsimp only at hSw); go_simp; first | done | with_reducible rfl)
              simp only [Act.put, List.setIfInBounds_toArray, List.set_cons_zero, List.set_cons_succ]
              refine wpAnyH_take (i := 6) (oi := { dst := some 92, op := Op.load 2 (Operand.tmp 91), type := 2, pos := "law.go:79", after := #[{ on := 5, ground := Ground.data }], guard := none }) (v := ?vvag187) rfl (by kernel_rfl) (by kernel_rfl) (by kernel_rfl) (fun _ _ _ h => h) (Or.inl ⟨by rfl, ?yvag187⟩) hk ?rvag187
              case yvag187 => (intro w hSw; have hcw := hSw.c6; clear hSw; go_simp; first | done | with_reducible rfl)
              simp only [Act.put, List.setIfInBounds_toArray, List.set_cons_zero, List.set_cons_succ]
              refine wpAnyH_take (i := 7) (oi := { dst := some 93, op := Op.load 26 (Operand.tmp 13), type := 26, pos := "law.go:79", after := #[], guard := none }) (v := .agg #[.int .i64 c.s0, .int .i64 c.s1, .int .i64 c.s2, .int .i64 c.s3, .int .i64 c.k, .int .i64 c.f, .int .i64 c.g]) rfl (by kernel_rfl) (by kernel_rfl) (by kernel_rfl) (fun _ _ _ h => h) (Or.inl ⟨by rfl, ?yvag188⟩) hk ?rvag188
              case yvag188 => (intro w hSw; have q0 := hSw.c0; have q1 := hSw.c1; have q2 := hSw.c2; have q3 := hSw.c3; have q4 := hSw.c4; have q5 := hSw.c5; have q6 := hSw.c6; clear hSw; go_simp; first | done | with_reducible rfl)
              simp only [Act.put, List.setIfInBounds_toArray, List.set_cons_zero, List.set_cons_succ]
              refine wpAnyH_take (i := 10) (oi := { dst := some 96, op := Op.move (Operand.tmp 9), type := 47, pos := "law.go:79", after := #[], guard := none }) (v := ?vvag189) rfl (by kernel_rfl) (by kernel_rfl) (by kernel_rfl) (fun _ _ _ h => h) (Or.inl ⟨by rfl, ?yvag189⟩) hk ?rvag189
              case yvag189 => (intro w hSw; (try dsimp only at hSw); go_simp; first | done | with_reducible rfl)
              simp only [Act.put, List.setIfInBounds_toArray, List.set_cons_zero, List.set_cons_succ]
              refine wpAnyH_take (i := 11) (oi := { dst := some 97, op := Op.move (Operand.tmp 12), type := 3, pos := "law.go:79", after := #[], guard := none }) (v := ?vvag1810) rfl (by kernel_rfl) (by kernel_rfl) (by kernel_rfl) (fun _ _ _ h => h) (Or.inl ⟨by rfl, ?yvag1810⟩) hk ?rvag1810
              case yvag1810 => (intro w hSw; (try dsimp only at hSw); go_simp; first | done | with_reducible rfl)
              simp only [Act.put, List.setIfInBounds_toArray, List.set_cons_zero, List.set_cons_succ]
              refine wpAnyH_take (i := 12) (oi := { dst := some 98, op := Op.indexAddr 47 (Operand.tmp 96) (Operand.tmp 97), type := 0, pos := "law.go:79", after := #[{ on := 10, ground := Ground.data }, { on := 11, ground := Ground.data }], guard := none }) (v := ?vvag1811) rfl (by kernel_rfl) (by kernel_rfl) (by kernel_rfl) (fun _ _ _ h => h) (Or.inl ⟨by rfl, ?yvag1811⟩) hk ?rvag1811
              case yvag1811 => (intro w hSw; (try dsimp only at hSw); go_simp; first | done | with_reducible rfl)
              simp only [Act.put, List.setIfInBounds_toArray, List.set_cons_zero, List.set_cons_succ]
              refine wpAnyH_take (i := 13) (oi := { dst := some 99, op := Op.load 38 (Operand.tmp 98), type := 38, pos := "law.go:79", after := #[{ on := 12, ground := Ground.data }], guard := none }) (v := .agg #[.int .i64 kd, .int .i64 z0, .int .i64 z1, .int .i64 z2, .int .i64 z3, .int .i64 rt, .int .i64 us]) rfl (by kernel_rfl) (by kernel_rfl) (by kernel_rfl) (fun _ _ _ h => h) (Or.inl ⟨by rfl, ?yvag1812⟩) hk ?rvag1812
              case yvag1812 => (intro w hSw; obtain ⟨q0, q1, q2, q3, q4, q5, q6⟩ := (HQM.out _ hSw.q).2.2.st q hlt HSN.out rfl; clear hSw; go_simp; first | done | with_reducible rfl)
              simp only [Act.put, List.setIfInBounds_toArray, List.set_cons_zero, List.set_cons_succ]
              refine wpAnyH_ready (rs := [8]) (by decide +kernel) (by simp) ?_
              refine AllReadyH.cons (o := { dst := some 94, op := Op.call { callee := Callee.value (Operand.func 14), args := #[Operand.tmp 93], argTypes := #[26] }, type := 3, pos := "law.go:79", after := #[{ on := 7, ground := Ground.data }], guard := none }) rfl (fun K hK => ?_) AllReadyH.nil
              go_simp
              refine (fuel_any c _).mono ?_
              rintro e1 wk ⟨rfl, hb1⟩
              replace hk := hk.step hb1
              clear hb1
              refine hK.out _ _ hk (fun _ => ?_)
              clear hK K
              try simp only [Act.put, List.setIfInBounds_toArray, List.set_cons_zero, List.set_cons_succ]
              refine wpAnyH_ready (rs := [9]) (by decide +kernel) (by simp) ?_
              refine AllReadyH.cons (o := { dst := some 95, op := Op.call { callee := Callee.value (Operand.func 13), args := #[Operand.tmp 86, Operand.tmp 88, Operand.tmp 90, Operand.tmp 92, Operand.tmp 94], argTypes := #[28, 24, 3, 2, 3] }, type := 38, pos := "law.go:79", after := #[{ on := 0, ground := Ground.data }, { on := 2, ground := Ground.data }, { on := 4, ground := Ground.data }, { on := 6, ground := Ground.data }, { on := 8, ground := Ground.data }, { on := 8, ground := Ground.chain }], guard := none }) rfl (fun K hK => ?_) AllReadyH.nil
              go_simp
              refine (step_any gm gc cc L c.s0 c.s1 c.s2 c.s3 c.k c.g (fuC c) _ (HQM.out _ hk.q).1 HIK.out HCK.out.s HCK.out.k HCK.out.g (fuC_in c)).mono ?_
              rintro e1 wk ⟨rfl, hb1⟩
              rw [HST.out]
              replace hk := hk.step hb1
              clear hb1
              refine hK.out _ _ hk (fun _ => ?_)
              clear hK K
              try simp only [Act.put, List.setIfInBounds_toArray, List.set_cons_zero, List.set_cons_succ]
              refine wpAnyH_take (i := 14) (oi := { dst := some 100, op := Op.binOp BinOp.neq 38 (Operand.tmp 95) (Operand.tmp 99) 38, type := 4, pos := "law.go:79", after := #[{ on := 9, ground := Ground.data }, { on := 13, ground := Ground.data }], guard := none }) (v := ?vvag1813) rfl (by kernel_rfl) (by kernel_rfl) (by kernel_rfl) (fun _ _ _ h => h) (Or.inl ⟨by rfl, ?yvag1813⟩) hk ?rvag1813
              case yvag1813 => (intro w hSw; (try dsimp only at hSw); go_simp; first | done | with_reducible rfl)
              simp only [Act.put, List.setIfInBounds_toArray, List.set_cons_zero, List.set_cons_succ]
              refine wpAnyH_take (i := 15) (oi := { dst := some 101, op := Op.move (Operand.tmp 100), type := 4, pos := "law.go:79", after := #[{ on := 14, ground := Ground.data }, { on := 9, ground := Ground.chain }], guard := none }) (v := ?vvag1814) rfl (by kernel_rfl) (by kernel_rfl) (by kernel_rfl) (fun _ _ _ h => h) (Or.inl ⟨by rfl, ?yvag1814⟩) hk ?rvag1814
              case yvag1814 => (intro w hSw; (try dsimp only at hSw); go_simp; first | done | with_reducible rfl)
              simp only [Act.put, List.setIfInBounds_toArray, List.set_cons_zero, List.set_cons_succ]
              refine wpAnyH_take (i := 16) (oi := { dst := some 102, op := Op.move (Operand.tmp 7), type := 28, pos := "law.go:79", after := #[{ on := 15, ground := Ground.guard }], guard := some (15, false) }) (v := ?vvag1815) rfl (by kernel_rfl) (by kernel_rfl) (by kernel_rfl) (fun _ _ _ h => h) (Or.inl ⟨by rfl, ?yvag1815⟩) hk ?rvag1815
              case yvag1815 => (intro w hSw; (try dsimp only at hSw); go_simp; first | done | with_reducible rfl)
              simp only [Act.put, List.setIfInBounds_toArray, List.set_cons_zero, List.set_cons_succ]
              refine wpAnyH_take (i := 17) (oi := { dst := some 103, op := Op.fieldAddr 26 (Operand.tmp 13) 0, type := 0, pos := "law.go:79", after := #[{ on := 15, ground := Ground.guard }], guard := some (15, false) }) (v := ?vvag1816) rfl (by kernel_rfl) (by kernel_rfl) (by kernel_rfl) (fun _ _ _ h => h) (Or.inl ⟨by rfl, ?yvag1816⟩) hk ?rvag1816
              case yvag1816 => (intro w hSw; (try dsimp only at hSw); go_simp; first | done | with_reducible rfl)
              simp only [Act.put, List.setIfInBounds_toArray, List.set_cons_zero, List.set_cons_succ]
              refine wpAnyH_take (i := 18) (oi := { dst := some 104, op := Op.load 24 (Operand.tmp 103), type := 24, pos := "law.go:79", after := #[{ on := 17, ground := Ground.data }, { on := 15, ground := Ground.guard }], guard := some (15, false) }) (v := .agg #[.int .i64 c.s0, .int .i64 c.s1, .int .i64 c.s2, .int .i64 c.s3]) rfl (by kernel_rfl) (by kernel_rfl) (by kernel_rfl) (fun _ _ _ h => h) (Or.inl ⟨by rfl, ?yvag1817⟩) hk ?rvag1817
              case yvag1817 => (intro w hSw; have q0 := hSw.c0; have q1 := hSw.c1; have q2 := hSw.c2; have q3 := hSw.c3; have q4 := hSw.c4; have q5 := hSw.c5; have q6 := hSw.c6; clear hSw; go_simp; first | done | with_reducible rfl)
              simp only [Act.put, List.setIfInBounds_toArray, List.set_cons_zero, List.set_cons_succ]
              refine wpAnyH_take (i := 19) (oi := { dst := some 105, op := Op.fieldAddr 26 (Operand.tmp 13) 1, type := 0, pos := "law.go:79", after := #[{ on := 15, ground := Ground.guard }], guard := some (15, false) }) (v := ?vvag1818) rfl (by kernel_rfl) (by kernel_rfl) (by kernel_rfl) (fun _ _ _ h => h) (Or.inl ⟨by rfl, ?yvag1818⟩) hk ?rvag1818
              case yvag1818 => (intro w hSw; (try dsimp only at hSw); go_simp; first | done | with_reducible rfl)
              simp only [Act.put, List.setIfInBounds_toArray, List.set_cons_zero, List.set_cons_succ]
              refine wpAnyH_take (i := 20) (oi := { dst := some 106, op := Op.load 3 (Operand.tmp 105), type := 3, pos := "law.go:79", after := #[{ on := 19, ground := Ground.data }, { on := 15, ground := Ground.guard }], guard := some (15, false) }) (v := ?vvag1819) rfl (by kernel_rfl) (by kernel_rfl) (by kernel_rfl) (fun _ _ _ h => h) (Or.inl ⟨by rfl, ?yvag1819⟩) hk ?rvag1819
              case yvag1819 => (intro w hSw; have hcw := hSw.c4; clear hSw; go_simp; first | done | with_reducible rfl)
              simp only [Act.put, List.setIfInBounds_toArray, List.set_cons_zero, List.set_cons_succ]
              refine wpAnyH_take (i := 21) (oi := { dst := some 107, op := Op.fieldAddr 26 (Operand.tmp 13) 3, type := 0, pos := "law.go:79", after := #[{ on := 15, ground := Ground.guard }], guard := some (15, false) }) (v := ?vvag1820) rfl (by kernel_rfl) (by kernel_rfl) (by kernel_rfl) (fun _ _ _ h => h) (Or.inl ⟨by rfl, ?yvag1820⟩) hk ?rvag1820
              case yvag1820 => (intro w hSw; (try dsimp only at hSw); go_simp; first | done | with_reducible rfl)
              simp only [Act.put, List.setIfInBounds_toArray, List.set_cons_zero, List.set_cons_succ]
              refine wpAnyH_take (i := 22) (oi := { dst := some 108, op := Op.load 2 (Operand.tmp 107), type := 2, pos := "law.go:79", after := #[{ on := 21, ground := Ground.data }, { on := 15, ground := Ground.guard }], guard := some (15, false) }) (v := ?vvag1821) rfl (by kernel_rfl) (by kernel_rfl) (by kernel_rfl) (fun _ _ _ h => h) (Or.inl ⟨by rfl, ?yvag1821⟩) hk ?rvag1821
              case yvag1821 => (intro w hSw; have hcw := hSw.c6; clear hSw; go_simp; first | done | with_reducible rfl)
              simp only [Act.put, List.setIfInBounds_toArray, List.set_cons_zero, List.set_cons_succ]
              refine wpAnyH_take (i := 23) (oi := { dst := some 109, op := Op.load 26 (Operand.tmp 13), type := 26, pos := "law.go:79", after := #[{ on := 15, ground := Ground.guard }], guard := some (15, false) }) (v := .agg #[.int .i64 c.s0, .int .i64 c.s1, .int .i64 c.s2, .int .i64 c.s3, .int .i64 c.k, .int .i64 c.f, .int .i64 c.g]) rfl (by kernel_rfl) (by kernel_rfl) (by kernel_rfl) (fun _ _ _ h => h) (Or.inl ⟨by rfl, ?yvag1822⟩) hk ?rvag1822
              case yvag1822 => (intro w hSw; have q0 := hSw.c0; have q1 := hSw.c1; have q2 := hSw.c2; have q3 := hSw.c3; have q4 := hSw.c4; have q5 := hSw.c5; have q6 := hSw.c6; clear hSw; go_simp; first | done | with_reducible rfl)
              simp only [Act.put, List.setIfInBounds_toArray, List.set_cons_zero, List.set_cons_succ]
              refine wpAnyH_take (i := 26) (oi := { dst := some 112, op := Op.move (Operand.tmp 9), type := 47, pos := "law.go:79", after := #[{ on := 15, ground := Ground.guard }], guard := some (15, false) }) (v := ?vvag1823) rfl (by kernel_rfl) (by kernel_rfl) (by kernel_rfl) (fun _ _ _ h => h) (Or.inl ⟨by rfl, ?yvag1823⟩) hk ?rvag1823
              case yvag1823 => (intro w hSw; (try dsimp only at hSw); go_simp; first | done | with_reducible rfl)
              simp only [Act.put, List.setIfInBounds_toArray, List.set_cons_zero, List.set_cons_succ]
              refine wpAnyH_take (i := 27) (oi := { dst := some 113, op := Op.move (Operand.tmp 12), type := 3, pos := "law.go:79", after := #[{ on := 15, ground := Ground.guard }], guard := some (15, false) }) (v := ?vvag1824) rfl (by kernel_rfl) (by kernel_rfl) (by kernel_rfl) (fun _ _ _ h => h) (Or.inl ⟨by rfl, ?yvag1824⟩) hk ?rvag1824
              case yvag1824 => (intro w hSw; (try dsimp only at hSw); go_simp; first | done | with_reducible rfl)
              simp only [Act.put, List.setIfInBounds_toArray, List.set_cons_zero, List.set_cons_succ]
              refine wpAnyH_take (i := 28) (oi := { dst := some 114, op := Op.indexAddr 47 (Operand.tmp 112) (Operand.tmp 113), type := 0, pos := "law.go:79", after := #[{ on := 26, ground := Ground.data }, { on := 27, ground := Ground.data }, { on := 15, ground := Ground.guard }], guard := some (15, false) }) (v := ?vvag1825) rfl (by kernel_rfl) (by kernel_rfl) (by kernel_rfl) (fun _ _ _ h => h) (Or.inl ⟨by rfl, ?yvag1825⟩) hk ?rvag1825
              case yvag1825 => (intro w hSw; (try dsimp only at hSw); go_simp; first | done | with_reducible rfl)
              simp only [Act.put, List.setIfInBounds_toArray, List.set_cons_zero, List.set_cons_succ]
              refine wpAnyH_take (i := 29) (oi := { dst := some 115, op := Op.load 38 (Operand.tmp 114), type := 38, pos := "law.go:79", after := #[{ on := 28, ground := Ground.data }, { on := 15, ground := Ground.guard }], guard := some (15, false) }) (v := .agg #[.int .i64 kd, .int .i64 z0, .int .i64 z1, .int .i64 z2, .int .i64 z3, .int .i64 rt, .int .i64 us]) rfl (by kernel_rfl) (by kernel_rfl) (by kernel_rfl) (fun _ _ _ h => h) (Or.inl ⟨by rfl, ?yvag1826⟩) hk ?rvag1826
              case yvag1826 => (intro w hSw; obtain ⟨q0, q1, q2, q3, q4, q5, q6⟩ := (HQM.out _ hSw.q).2.2.st q hlt HSN.out rfl; clear hSw; go_simp; first | done | with_reducible rfl)
              simp only [Act.put, List.setIfInBounds_toArray, List.set_cons_zero, List.set_cons_succ]
              refine wpAnyH_ready (rs := [24]) (by decide +kernel) (by simp) ?_
              refine AllReadyH.cons (o := { dst := some 110, op := Op.call { callee := Callee.value (Operand.func 14), args := #[Operand.tmp 109], argTypes := #[26] }, type := 3, pos := "law.go:79", after := #[{ on := 23, ground := Ground.data }, { on := 15, ground := Ground.chain }, { on := 15, ground := Ground.guard }], guard := some (15, false) }) rfl (fun K hK => ?_) AllReadyH.nil
              go_simp
              refine (fuel_any c _).mono ?_
              rintro e1 wk ⟨rfl, hb1⟩
              replace hk := hk.step hb1
              clear hb1
              refine hK.out _ _ hk (fun _ => ?_)
              clear hK K
              try simp only [Act.put, List.setIfInBounds_toArray, List.set_cons_zero, List.set_cons_succ]
              refine wpAnyH_ready (rs := [25]) (by decide +kernel) (by simp) ?_
              refine AllReadyH.cons (o := { dst := some 111, op := Op.call { callee := Callee.value (Operand.func 13), args := #[Operand.tmp 102, Operand.tmp 104, Operand.tmp 106, Operand.tmp 108, Operand.tmp 110], argTypes := #[28, 24, 3, 2, 3] }, type := 38, pos := "law.go:79", after := #[{ on := 16, ground := Ground.data }, { on := 18, ground := Ground.data }, { on := 20, ground := Ground.data }, { on := 22, ground := Ground.data }, { on := 24, ground := Ground.data }, { on := 24, ground := Ground.chain }, { on := 15, ground := Ground.guard }], guard := some (15, false) }) rfl (fun K hK => ?_) AllReadyH.nil
              go_simp
              refine (step_any gn gd cd L c.s0 c.s1 c.s2 c.s3 c.k c.g (fuC c) _ (HQM.out _ hk.q).2.1 HIK.out HCK.out.s HCK.out.k HCK.out.g (fuC_in c)).mono ?_
              rintro e1 wk ⟨rfl, hb1⟩
              rw [HST.out]
              replace hk := hk.step hb1
              clear hb1
              refine hK.out _ _ hk (fun _ => ?_)
              clear hK K
              try simp only [Act.put, List.setIfInBounds_toArray, List.set_cons_zero, List.set_cons_succ]
              refine wpAnyH_take (i := 30) (oi := { dst := some 116, op := Op.binOp BinOp.neq 38 (Operand.tmp 111) (Operand.tmp 115) 38, type := 4, pos := "law.go:79", after := #[{ on := 25, ground := Ground.data }, { on := 29, ground := Ground.data }, { on := 15, ground := Ground.guard }], guard := some (15, false) }) (v := ?vvag1827) rfl (by kernel_rfl) (by kernel_rfl) (by kernel_rfl) (fun _ _ _ h => h) (Or.inl ⟨by rfl, ?yvag1827⟩) hk ?rvag1827
              case yvag1827 => (intro w hSw; (try dsimp only at hSw); go_simp; first | done | with_reducible rfl)
              simp only [Act.put, List.setIfInBounds_toArray, List.set_cons_zero, List.set_cons_succ]
              refine wpAnyH_take (i := 31) (oi := { dst := some 117, op := Op.pick (Operand.tmp 101) (Operand.const (Value.bool true)) (Operand.tmp 116), type := 4, pos := "law.go:79", after := #[{ on := 15, ground := Ground.data }, { on := 30, ground := Ground.data }], guard := none }) (v := ?vvag1828) rfl (by kernel_rfl) (by kernel_rfl) (by kernel_rfl) (fun _ _ _ h => h) (Or.inl ⟨by rfl, ?yvag1828⟩) hk ?rvag1828
              case yvag1828 => (intro w hSw; (try dsimp only at hSw); go_simp; first | done | with_reducible rfl)
              simp only [Act.put, List.setIfInBounds_toArray, List.set_cons_zero, List.set_cons_succ]
              refine wpAnyH_done (by decide +kernel) ?_ _
              have HB8 := Bx.mk hk.low
              clear hk
              go_wp2_with fail
              go_roundw
              case rel => exact ⟨(q : Int) - 1, by go_num, by omega, by omega, HB8⟩
              case measure => simp [intOf]
            · have hi3 : decide (0 ≤ i0) = false := by simp; omega
              have HB : Bx (Below w.heap.size w wr) := ⟨bstep HBO.out HBW.out⟩
              go_wp2_with fail
              refine (lives16_any _).mono ?_
              rintro e wL ⟨rfl, hbL⟩
              have hfin := bstep HB.out hbL
              go_wp2_with fail
              go_ret
              exact ⟨rfl, hfin⟩
  · refine (vnew_no _ _ _ _ _ HE1.out hok).mono ?_
    rintro e w2 ⟨rfl, hb2⟩
    have HE2 := Bx.mk (HE1.out.below hb2)
    have HB2 := Bx.mk (bstep HB1.out hb2)
    clear hb2 HE1 HB1
    have hq : ((thr L).2.2 != 0) = true := by simpa using hok
    obtain ⟨er, HER⟩ : ∃ er, Bx ((thr L).2.2 = er) := ⟨_, ⟨rfl⟩⟩
    rw [HER.out] at hq ⊢
    have hqq : (er != er) = false := by simp
    go_wp2_with fail
    refine (vnew_no _ _ _ _ _ HE2.out hok).mono ?_
    rintro e w3 ⟨rfl, hb3⟩
    rw [HER.out]
    have HB := Bx.mk (bstep HB2.out hb3)
    clear hb3 HE2 HB2 hok
    go_wp2_with fail
    refine (lives16_any _).mono ?_
    rintro e wL ⟨rfl, hbL⟩
    have hfin := bstep HB.out hbL
    go_wp2_with fail
    go_ret
    exact ⟨rfl, hfin⟩

set_option maxRecDepth 100000 in
theorem lifted (os : Os) (started : os.Started) (H : Type) (enc : TypeId × Value → H) :
    ReturnsInHanded {} Try.checked os 5 .any (Rows.vmAgainSpec.pre6 enc Try.prog Try.f5 Rows.vmAgainRow.domain false) (Rows.vmAgainSpec.post enc Try.prog Try.f5 false true false false) := by
  refine returnsInHanded_of_change (C := Try.checked) own started (by kernel_rfl) Try.func5
    (ChangeSpec.witness6 (enc := enc) (C := Try.checked) false ⟨#[], #[.slice none 0 0, .slice none 0 0], []⟩ 8 (by kernel_rfl) (by kernel_rfl) (by kernel_rfl) (by kernel_rfl)) ?_
  intro W base args ds gs before hval0 hW hcnd _
  have hval : ∀ (j : Nat) t v, Try.f5.params[j]? = some t → args[j]? = some v → Value.okWide Try.prog W .any base t v := hval0
  have hW' := hW
  obtain ⟨p, q, hA0, hV, rfl, hfz, hnd⟩ := hW
  have hA : DataW.TrodAll enc Try.prog W 0 (fun _ => true) true Try.f5.params.toList args.toList ds p := hA0
  rw [Try.params5] at hA hval
  obtain ⟨v0, vs0, d0, ds0, p0, q0, hargs, rfl, rfl, h0, r0⟩ := trodAll_cons hA
  obtain ⟨v1, vs1, d1, ds1, p1, q1, rfl, rfl, rfl, h1, r1⟩ := trodAll_cons r0
  obtain ⟨rfl, rfl, rfl⟩ := trodAll_nil r1
  obtain rfl : args = #[v0, v1] := by cases args; simp_all
  obtain ⟨rfl, rfl⟩ := trodVars_none hV
  obtain ⟨a0, len0, cap0, rfl⟩ := okWide_slice Try.underlying22 (hval 0 22 v0 rfl rfl)
  obtain ⟨a1, len1, cap1, rfl⟩ := okWide_slice Try.underlying46 (hval 1 46 v1 rfl rfl)
  have k0 := h0
  have lt0 : ∀ x ∈ p0, x.block < W.heap.size := by obtain ⟨m, hm⟩ := k0; exact DataW.trod_lt m _ _ _ hm
  have k1 := h1
  have lt1 : ∀ x ∈ p1, x.block < W.heap.size := by obtain ⟨m, hm⟩ := k1; exact DataW.trod_lt m _ _ _ hm
  obtain ⟨l, hl⟩ := open_ics h0
  obtain ⟨C0, hC0⟩ := open_cals h1
  clear hA0 hval0
  refine (walk a0 len0 cap0 l a1 len1 cap1 C0 W hl hC0).mono fun e W' ⟨he, bel⟩ => ?_
  subst he
  exact ⟨_, rfl, _, _, _, [], _, [], hW', trodAll_mk1 (shut_bool Try.underlying4 _), (trodAll_cons_mk (Below.trod laidOut (by kernel_rfl) (of_decide_eq_true (by kernel_rfl)) k0 bel lt0) (trodAll_cons_mk (Below.trod laidOut (by kernel_rfl) (of_decide_eq_true (by kernel_rfl)) k1 bel lt1) trodAll_mk0)), rfl, bel.frame _, fun h => by cases h⟩

theorem over : Rows.vmAgainRow.holds Try.pinned (OpenSpec.ofChange Rows.vmAgainSpec) :=
  OpenClaim.holds_of_wide 5 Try.f5 rfl rfl rfl rfl rfl rfl rfl ⟨rfl, rfl, rfl, rfl, rfl⟩ rfl rfl rfl rfl rfl (by kernel_rfl) Try.func5 (by kernel_rfl)
    (of_decide_eq_true (by kernel_rfl)) (by unfold Func.isWrapper; first | (rw [if_pos (by decide +kernel)]; kernel_rfl) | (rw [if_neg (by decide +kernel)]; exact ⟨rfl, rfl⟩))
    (fun os started H enc _ => lifted os started H enc)

/-- the statement -/
theorem proved : Rows.VmAgainSaid := over
end Go.Proofs.Ytpbdgacdbhabhaa.vmAgain
namespace Go.Proofs.Ytpbdgacdbhabhaa
theorem vmAgain_holds : Rows.VmAgainSaid := vmAgain.proved
#print axioms vmAgain_holds
end Go.Proofs.Ytpbdgacdbhabhaa
