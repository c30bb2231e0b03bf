/- For every list of digests and every number the law MerkleShown returns true and the list reads as it did (P6.5): each place of a list of up to 24 digests has a path that is taken, with no more digests than the list's length has bits, and each beginning a growth that is. The package's table is as the program's text lays it (the card ties it). -/
import Derived.Test.YtaphbenkkicbhabDoorDoor
import Derived.Test.YtaphbenkkicbhabDoorPath
import Derived.Test.YtaphbenkkicbhabDoorGrowIn
import Derived.Test.YtaphbenkkicbhabDoorDgsIn
import Derived.Test.YtaphbenkkicbhabDoorDgsApp
import Derived.Test.YtaphbenkkicbhabDoorGrowCheck
import Derived.WalkKit
import Derived.ShutString
import Derived.ChangeOld
import Derived.Below
namespace Go.Proofs.YtaphbenkkicbhabDoor.merkleShown
open Go.ChangeShapes Go.WideShapes Go.ChangeAt Go.RowKit
open Go.ChangeMaps (open_string shut_string)
set_option linter.unusedVariables false

theorem laidOut : laidOutB Tryd.prog = true := by kernel_rfl

/-- what stays from round to round: the list and all that was there, the root in its variable -/
structure SHs (V : Nat) (RT : List Int) (w wr : World) : Prop where
  low : Below w.heap.size w wr
  vr : wr.heap[V]? = some (.cells (bv RT).toArray 26 (0, 0))
theorem SHs.step {V : Nat} {RT : List Int} {w wr w1 : World} (h : SHs V RT w wr) (hb : Below wr.heap.size wr w1) : SHs V RT w w1 :=
  ⟨h.low.trans (hb.mono h.low.size), (hb.block _ (Array.getElem?_eq_some_iff.1 h.vr).1).trans h.vr⟩
/-- .. and within a round: the path and the growth -/
structure SHp (V : Nat) (RT : List Int) (ap : Option Addr) (pl cp : Nat) (PL : List (List Int)) (ag : Option Addr) (gl cg : Nat) (GL : List (List Int)) (w wr : World) : Prop where
  low : Below w.heap.size w wr
  vr : wr.heap[V]? = some (.cells (bv RT).toArray 26 (0, 0))
  pp : Dgs wr ap pl cp PL
  gg : Dgs wr ag gl cg GL
theorem SHp.step {V : Nat} {RT : List Int} {ap : Option Addr} {pl cp : Nat} {PL : List (List Int)} {ag : Option Addr} {gl cg : Nat} {GL : List (List Int)} {w wr w1 : World} (h : SHp V RT ap pl cp PL ag gl cg GL w wr) (hb : Below wr.heap.size wr w1) : SHp V RT ap pl cp PL ag gl cg GL w w1 :=
  ⟨h.low.trans (hb.mono h.low.size), (hb.block _ (Array.getElem?_eq_some_iff.1 h.vr).1).trans h.vr, h.pp.below hb, h.gg.below hb⟩

set_option maxRecDepth 100000 in
set_option maxHeartbeats 1000000 in
theorem walk (a0 : Option Addr) (len0 cap0 : Nat) (L : List (List Int)) (x1 : Int) (w : World) (hL : Dgs w a0 len0 cap0 L) (hx1 : -9223372036854775808 ≤ x1 ∧ x1 ≤ 9223372036854775807) (htab : Tab w) :
    Calls Tryd.prog 3 #[.slice a0 len0 cap0, .int .i64 x1] w fun e w' => e = .returned (.bool true) ∧ Below w.heap.size w w' := by
  go_enter Tryd.func3, Tryd.ntmps3
  go_wp2_with fail
  refine (few_any a0 len0 cap0 24 L _ hL (by decide)).mono ?_
  rintro e w1 ⟨a1, m, c1, rfl, hm, h1, hb1⟩
  generalize L.take 24 = M at h1
  have hT1 := htab.below hb1
  have hlen := h1.len_eq
  have hcap := h1.le_cap
  have hcm := h1.cap_le
  unfold maxLen at hcm
  clear hL htab
  have HML : Bx (M.length = m) := ⟨hlen⟩
  clear hlen
  go_wp2
  go_loop [5] (fun v => ∃ b : Nat, b ≤ 5 ∧ v = .int .i64 b) (fun v => 5 - (intOf v).toNat)
  case atStart => exact ⟨0, by decide, rfl⟩
  case round =>
    obtain ⟨b, hb5, rfl⟩ := hrel
    obtain ⟨pw, hpw⟩ : ∃ pw, pw = 2 ^ b := ⟨_, rfl⟩
    have hpl : pw ≤ 32 := by rw [hpw]; exact Nat.pow_le_pow_right (n := 2) (j := 5) (by decide) hb5
    have hw : wrap64 (2 ^ b) = (pw : Int) := by
      rw [show (2 : Int) ^ b = ((2 ^ b : Nat) : Int) from by simp, ← hpw]
      unfold wrap64; omega
    have hw2 : (2 : Int) ^ b = (pw : Int) := by rw [hpw]; simp
    have HPW : Bx (pw = 2 ^ b) := ⟨hpw⟩
    clear hpw
    by_cases hlt : pw < m
    · have hb4 : b + 1 ≤ 5 := by
        have h := HPW.out
        by_cases hh : b = 5
        · subst hh; omega
        · omega
      have hd : (pw : Int) < (m : Int) := by omega
      go_wp2
      go_round
      case rel => exact ⟨b + 1, hb4, by go_num⟩
      case measure => simp [intOf]; omega
    · have hd : ¬ (pw : Int) < (m : Int) := by omega
      have HMB : Bx (M.length ≤ 2 ^ b) := ⟨by rw [HML.out, ← HPW.out]; omega⟩
      have HRT : Bx (Calls Tryd.prog 6 #[.slice a1 m c1, .int .i64 x1] w1 fun e w' => e = .returned (.agg (bv (rootL M x1)).toArray) ∧ Below w1.heap.size w1 w') := ⟨root_any m a1 m c1 M x1 w1 (Nat.le_refl _) h1 hT1 (by omega)⟩
      have hRd := rootL_dg M x1 h1.dig
      have HRE : Bx (∃ RT, RT = rootL M x1) := ⟨⟨_, rfl⟩⟩
      obtain ⟨RT, hRT⟩ := HRE.out
      rw [← hRT] at HRT hRd
      have HRT2 : Bx (RT = rootL M x1) := ⟨hRT⟩
      clear hRT HRE
      go_wp2_with fail
      refine HRT.out.mono ?_
      rintro e w2 ⟨rfl, hb2⟩
      obtain ⟨DR, hDR⟩ : ∃ DR, DR = (bv RT).toArray := ⟨_, rfl⟩
      obtain ⟨hdv, hth, hinf, hone⟩ := dig_var w2 RT hRd.1 DR hDR
      have HTHR : Bx _ := ⟨hth⟩
      have HDV : Bx _ := ⟨hdv⟩
      have HINF : Bx _ := ⟨hinf⟩
      have HONE : Bx _ := ⟨hone⟩
      rw [← hDR]
      clear hdv hth hinf hone hDR HRT hw hw2 hd hlt
      go_wp2_with (refine wpList_store_mid rfl 26 (.tmp 6) (.tmp 24) rfl w2.heap.size 0 DR rfl rfl ?ht HINF.out HONE.out ?_; (case ht => exact HTHR.out); have hdv := HDV.out; generalize (w2.alloc (.cells #[.int .u8 0, .int .u8 0, .int .u8 0, .int .u8 0, .int .u8 0, .int .u8 0, .int .u8 0, .int .u8 0, .int .u8 0, .int .u8 0, .int .u8 0, .int .u8 0, .int .u8 0, .int .u8 0, .int .u8 0, .int .u8 0, .int .u8 0, .int .u8 0, .int .u8 0, .int .u8 0, .int .u8 0, .int .u8 0, .int .u8 0, .int .u8 0, .int .u8 0, .int .u8 0, .int .u8 0, .int .u8 0, .int .u8 0, .int .u8 0, .int .u8 0, .int .u8 0] 26)).setCells w2.heap.size 0 DR.toList = w3 at hdv ⊢; clear HDV HTHR)
      have hSH : SHs w2.heap.size RT w1 w3 := ⟨hb2.trans (hdv.low.mono hb2.size), hdv.row⟩
      clear hdv hb2 HINF HONE
      generalize w2.heap.size = V at hSH ⊢
      go_loopw [7] (fun v wr => ∃ k : Nat, k ≤ m ∧ v = .int .i64 k ∧ SHs V RT w1 wr) (fun v _ => m - (intOf v).toNat)
      case atStart => exact ⟨0, Nat.zero_le _, rfl, hSH⟩
      case round =>
        clear hSH
        obtain ⟨k, hk, rfl, hSH⟩ := hrel
        by_cases hkm : k < m
        · obtain ⟨pb, po, rfl, hplt, hcc⟩ := h1.spot (by omega)
          have hr := hcc k hkm
          rw [Nat.mul_comm 32 k] at hr
          have hlf := h1.dig.getD k (by rw [HML.out]; exact hkm)
          have HPA : Bx (∀ W, Below w1.heap.size w1 W → Calls Tryd.prog 7 #[.slice (some ⟨pb, po, none⟩) m c1, .int .i64 k, .int .i64 x1] W fun e w' => ∃ v, e = .returned (.tuple #[v, .int .i64 0]) ∧ w'.ownsRow W.heap.size 26 32 v (pathL M k x1).length (bv (pathL M k x1).flatten) ∧ Below W.heap.size W w') := ⟨fun W hW => by
            have h := path_any _ m c1 M (k : Int) x1 W (h1.below hW) (hT1.below hW) (by omega)
            rw [show pE m (k : Int) = 0 from if_pos ⟨by omega, by omega⟩, show pV M (k : Int) x1 = pathL M k x1 from by unfold pV; rw [if_pos ⟨by omega, by rw [HML.out]; omega⟩]; rfl] at h
            exact h⟩
          have HGA : Bx (∀ W, Below w1.heap.size w1 W → Calls Tryd.prog 8 #[.slice (some ⟨pb, po, none⟩) m c1, .int .i64 ((k : Int) + 1), .int .i64 x1] W fun e w' => ∃ v, e = .returned (.tuple #[v, .int .i64 0]) ∧ w'.ownsRow W.heap.size 26 32 v (growL M (k + 1) true x1).length (bv (growL M (k + 1) true x1).flatten) ∧ Below W.heap.size W w') := ⟨fun W hW => by
            have h := growth_any _ m c1 M ((k : Int) + 1) x1 W (h1.below hW) (hT1.below hW) (by omega)
            rw [show gE m ((k : Int) + 1) = 0 from if_pos ⟨by omega, by omega⟩, show gV M ((k : Int) + 1) x1 = growL M (k + 1) true x1 from by unfold gV; rw [if_pos ⟨by omega, by rw [HML.out]; omega⟩]; rfl] at h
            exact h⟩
          have HPd : Bx (Dgl (pathL M k x1)) := ⟨pathL_dg M.length M k x1 (Nat.le_refl _) h1.dig⟩
          have HGd : Bx (Dgl (growL M (k + 1) true x1)) := ⟨growL_dg M.length M (k + 1) true x1 (Nat.le_refl _) (by omega) (by rw [HML.out]; omega) h1.dig⟩
          have hpb := path_bits M k b x1 (by rw [HML.out]; exact hkm) HMB.out
          have hgb := grow_bits M (k + 1) b x1 (by omega) (by rw [HML.out]; omega) HMB.out
          have HCY : Bx (chkP RT (m : Int) (k : Int) (M.getD k []) (pathL M k x1) x1 = true) := ⟨by
            have h := chkP_yes M k x1 (by rw [HML.out]; exact hkm)
            rw [HML.out, ← HRT2.out] at h; exact h⟩
          have HGY : Bx (chkG (rootL (M.take (k + 1)) x1) ((k : Int) + 1) RT (m : Int) (growL M (k + 1) true x1) x1 = true) := ⟨by
            have h := chkG_yes M (k + 1) x1 (by omega) (by rw [HML.out]; omega)
            rw [HML.out, ← HRT2.out] at h; exact h⟩
          have HRR : Bx (∀ W, Below w1.heap.size w1 W → Calls Tryd.prog 6 #[.slice (some ⟨pb, po, none⟩) (k + 1) c1, .int .i64 x1] W fun e w' => e = .returned (.agg (bv (rootL (M.take (k + 1)) x1)).toArray) ∧ Below W.heap.size W w') := ⟨fun W hW => root_any (k + 1) _ _ _ _ x1 W (Nat.le_refl _) ((h1.below hW).take _ (by omega)) (hT1.below hW) (by omega)⟩
          have hQd := rootL_dg (M.take (k + 1)) x1 (h1.dig.take _)
          have hcut := dgs_cut pb po m c1 (k + 1) (by omega)
          rw [show ((k + 1 : Nat) : Int) = (k : Int) + 1 from by omega] at hcut
          generalize rootL (M.take (k + 1)) x1 = Q at HGY HRR hQd
          generalize M.getD k [] = lf at hr hlf HCY
          generalize pathL M k x1 = PL at HPA HPd hpb HCY
          generalize growL M (k + 1) true x1 = GL at HGA HGd hgb HGY
          have hdr : (Tryd.prog.info? 26).map (·.size) = some (bv RT).length := by rw [bv_length, hRd.1]; exact dig_info
          have hdl : (Tryd.prog.info? 26).map (·.size) = some (bv lf).length := by rw [bv_length, hlf.1]; exact dig_info
          obtain ⟨pl, hpl2⟩ : ∃ pl, pl = PL.length := ⟨_, rfl⟩
          obtain ⟨gl, hgl2⟩ : ∃ gl, gl = GL.length := ⟨_, rfl⟩
          rw [← hpl2] at HPA hpb
          rw [← hgl2] at HGA hgb
          clear hpl2 hgl2 hcc
          have hki : (k : Int) < (m : Int) := by omega
          go_wp2_with fail
          refine (HPA.out _ hSH.low).mono ?_
          rintro e w4 ⟨vp, rfl, ho4, hb4⟩
          obtain ⟨ap, cp, rfl, p4⟩ := Dgs.of_owns ho4 HPd.out
          have hS4 := hSH.step hb4
          clear ho4 hb4 hSH HPA
          go_wp2_with fail
          refine (HGA.out _ hS4.low).mono ?_
          rintro e w5 ⟨vg, rfl, ho5, hb5⟩
          obtain ⟨ag, cg, rfl, g5⟩ := Dgs.of_owns ho5 HGd.out
          have hS5 := hS4.step hb5
          have p5 := p4.below hb5
          clear ho5 hb5 hS4 HGA p4
          have g1 : decide ((b : Int) < (pl : Int)) = false := by simp; omega
          have g1' : decide (b < pl) = false := by simp; omega
          have g2 : decide ((b : Int) + 1 < (gl : Int)) = false := by simp; omega
          have hwr : IntKind.i64.wrap ((k : Int) + 1) = (k : Int) + 1 := IntWalk.i64_in _ (by omega)
          have HCP : Bx (∀ W, SHp V RT ap pl cp PL ag gl cg GL w1 W → Calls Tryd.prog 9 #[.agg (bv RT).toArray, .int .i64 m, .int .i64 k, .agg (bv lf).toArray, .slice ap pl cp, .int .i64 x1] W fun e w' => e = .returned (.bool true) ∧ Below W.heap.size W w') := ⟨fun W h => by rw [← HCY.out]; exact checkpath_any RT m k lf ap pl cp PL x1 W hRd hlf (by omega) h.pp (hT1.below h.low)⟩
          have HCG : Bx (∀ W, SHp V RT ap pl cp PL ag gl cg GL w1 W → Calls Tryd.prog 10 #[.agg (bv Q).toArray, .int .i64 ((k : Int) + 1), .agg (bv RT).toArray, .int .i64 m, .slice ag gl cg, .int .i64 x1] W fun e w' => e = .returned (.bool true) ∧ Below W.heap.size W w') := ⟨fun W h => by rw [← HGY.out]; exact checkgrowth_any Q ((k : Int) + 1) RT m ag gl cg GL x1 W hQd hRd (by omega) h.gg (hT1.below h.low)⟩
          have HRR : Bx (∀ W, SHp V RT ap pl cp PL ag gl cg GL w1 W → Calls Tryd.prog 6 #[.slice (some ⟨pb, po, none⟩) (k + 1) c1, .int .i64 x1] W fun e w' => e = .returned (.agg (bv Q).toArray) ∧ Below W.heap.size W w') := ⟨fun W h => HRR.out W h.low⟩
          clear HCY HGY
          go_wp2_with fail
          have hk : SHp V RT ap pl cp PL ag gl cg GL w1 w5.drew := ⟨below_drewN hS5.low 1, hS5.vr, p5.drewN 1, g5.drewN 1⟩
          clear hS5 p5 g5
          refine wp_region_held_drew (S := fun W => SHp V RT ap pl cp PL ag gl cg GL w1 W) (by kernel_rfl) hk (fun _ => ?_)
          refine wpAnyH_take (i := 0) (oi := { dst := some 65, op := Op.load 26 (Operand.tmp 6), type := 26, pos := "law.go:91", after := #[], guard := none }) (v := .agg (bv RT).toArray) rfl (by kernel_rfl) (by kernel_rfl) (by kernel_rfl) (fun _ _ _ h => h) (yieldsIf_load_mid (by rfl) 26 (.tmp 6) rfl V 0 rfl (bv RT) _ (fun W h => range_row h.vr) Tryd.underlying26 rfl hdr) hk ?_
          simp only [Act.put, List.setIfInBounds_toArray, List.set_cons_zero, List.set_cons_succ]
          refine wpAnyH_take (i := 1) (oi := { dst := some 66, op := Op.move (Operand.tmp 0), type := 22, pos := "law.go:91", after := #[], guard := none }) (v := ?vshown1) rfl (by kernel_rfl) (by kernel_rfl) (by kernel_rfl) (fun _ _ _ h => h) (Or.inl ⟨by rfl, ?yshown1⟩) hk ?rshown1
          case yshown1 => (intro w hSw; (try dsimp only at hSw); go_simp; first | done | with_reducible rfl)
          simp only [Act.put, List.setIfInBounds_toArray, List.set_cons_zero, List.set_cons_succ]
          refine wpAnyH_take (i := 2) (oi := { dst := some 67, op := Op.call { callee := Callee.builtin Builtin.len, args := #[Operand.tmp 66], argTypes := #[22] }, type := 3, pos := "law.go:91", after := #[{ on := 1, ground := Ground.data }], guard := none }) (v := ?vshown2) rfl (by kernel_rfl) (by kernel_rfl) (by kernel_rfl) (fun _ _ _ h => h) (Or.inl ⟨by rfl, ?yshown2⟩) hk ?rshown2
          case yshown2 => (intro w hSw; (try dsimp only at hSw); go_simp; first | done | with_reducible rfl)
          simp only [Act.put, List.setIfInBounds_toArray, List.set_cons_zero, List.set_cons_succ]
          refine wpAnyH_take (i := 3) (oi := { dst := some 68, op := Op.move (Operand.tmp 7), type := 3, pos := "law.go:91", after := #[], guard := none }) (v := ?vshown3) rfl (by kernel_rfl) (by kernel_rfl) (by kernel_rfl) (fun _ _ _ h => h) (Or.inl ⟨by rfl, ?yshown3⟩) hk ?rshown3
          case yshown3 => (intro w hSw; (try dsimp only at hSw); go_simp; first | done | with_reducible rfl)
          simp only [Act.put, List.setIfInBounds_toArray, List.set_cons_zero, List.set_cons_succ]
          refine wpAnyH_take (i := 4) (oi := { dst := some 69, op := Op.move (Operand.tmp 0), type := 22, pos := "law.go:91", after := #[], guard := none }) (v := ?vshown4) rfl (by kernel_rfl) (by kernel_rfl) (by kernel_rfl) (fun _ _ _ h => h) (Or.inl ⟨by rfl, ?yshown4⟩) hk ?rshown4
          case yshown4 => (intro w hSw; (try dsimp only at hSw); go_simp; first | done | with_reducible rfl)
          simp only [Act.put, List.setIfInBounds_toArray, List.set_cons_zero, List.set_cons_succ]
          refine wpAnyH_take (i := 5) (oi := { dst := some 70, op := Op.move (Operand.tmp 7), type := 3, pos := "law.go:91", after := #[], guard := none }) (v := ?vshown5) rfl (by kernel_rfl) (by kernel_rfl) (by kernel_rfl) (fun _ _ _ h => h) (Or.inl ⟨by rfl, ?yshown5⟩) hk ?rshown5
          case yshown5 => (intro w hSw; (try dsimp only at hSw); go_simp; first | done | with_reducible rfl)
          simp only [Act.put, List.setIfInBounds_toArray, List.set_cons_zero, List.set_cons_succ]
          refine wpAnyH_take (i := 6) (oi := { dst := some 71, op := Op.indexAddr 22 (Operand.tmp 69) (Operand.tmp 70), type := 0, pos := "law.go:91", after := #[{ on := 4, ground := Ground.data }, { on := 5, ground := Ground.data }], guard := none }) (v := ?vshown6) rfl (by kernel_rfl) (by kernel_rfl) (by kernel_rfl) (fun _ _ _ h => h) (Or.inl ⟨by rfl, ?yshown6⟩) hk ?rshown6
          case yshown6 => (intro w hSw; (try dsimp only at hSw); go_simp; first | done | with_reducible rfl)
          simp only [Act.put, List.setIfInBounds_toArray, List.set_cons_zero, List.set_cons_succ]
          refine wpAnyH_take (i := 7) (oi := { dst := some 72, op := Op.load 26 (Operand.tmp 71), type := 26, pos := "law.go:91", after := #[{ on := 6, ground := Ground.data }], guard := none }) (v := .agg (bv lf).toArray) rfl (by kernel_rfl) (by kernel_rfl) (by kernel_rfl) (fun _ _ _ h => h) (yieldsIf_load_mid (by rfl) 26 (.tmp 71) rfl pb (po + k * 32) rfl (bv lf) _ (fun W h => range_below hr h.low hplt) Tryd.underlying26 rfl hdl) hk ?_
          simp only [Act.put, List.setIfInBounds_toArray, List.set_cons_zero, List.set_cons_succ]
          refine wpAnyH_take (i := 8) (oi := { dst := some 73, op := Op.move (Operand.tmp 8), type := 22, pos := "law.go:91", after := #[], guard := none }) (v := ?vshown7) rfl (by kernel_rfl) (by kernel_rfl) (by kernel_rfl) (fun _ _ _ h => h) (Or.inl ⟨by rfl, ?yshown7⟩) hk ?rshown7
          case yshown7 => (intro w hSw; (try dsimp only at hSw); go_simp; first | done | with_reducible rfl)
          simp only [Act.put, List.setIfInBounds_toArray, List.set_cons_zero, List.set_cons_succ]
          refine wpAnyH_take (i := 9) (oi := { dst := some 74, op := Op.move (Operand.tmp 1), type := 3, pos := "law.go:91", after := #[], guard := none }) (v := ?vshown8) rfl (by kernel_rfl) (by kernel_rfl) (by kernel_rfl) (fun _ _ _ h => h) (Or.inl ⟨by rfl, ?yshown8⟩) hk ?rshown8
          case yshown8 => (intro w hSw; (try dsimp only at hSw); go_simp; first | done | with_reducible rfl)
          simp only [Act.put, List.setIfInBounds_toArray, List.set_cons_zero, List.set_cons_succ]
          refine wpAnyH_ready (rs := [10]) (by decide +kernel) (by simp) ?_
          refine AllReadyH.cons (o := { dst := some 75, op := Op.call { callee := Callee.value (Operand.func 9), args := #[Operand.tmp 65, Operand.tmp 67, Operand.tmp 68, Operand.tmp 72, Operand.tmp 73, Operand.tmp 74], argTypes := #[26, 3, 3, 26, 22, 3] }, type := 4, pos := "law.go:91", after := #[{ on := 0, ground := Ground.data }, { on := 2, ground := Ground.data }, { on := 3, ground := Ground.data }, { on := 7, ground := Ground.data }, { on := 8, ground := Ground.data }, { on := 9, ground := Ground.data }], guard := none }) rfl (fun K hK => ?_) AllReadyH.nil
          go_simp
          refine (HCP.out _ hk).mono ?_
          rintro e1 w10 ⟨rfl, hb1⟩
          replace hk := hk.step hb1
          clear hb1
          refine hK.out _ _ hk (fun _ => ?_)
          clear hK K
          try simp only [Act.put, List.setIfInBounds_toArray, List.set_cons_zero, List.set_cons_succ]
          refine wpAnyH_take (i := 11) (oi := { dst := some 76, op := Op.unOp UnOp.not 4 (Operand.tmp 75), type := 4, pos := "law.go:91", after := #[{ on := 10, ground := Ground.data }], guard := none }) (v := ?vshown9) rfl (by kernel_rfl) (by kernel_rfl) (by kernel_rfl) (fun _ _ _ h => h) (Or.inl ⟨by rfl, ?yshown9⟩) hk ?rshown9
          case yshown9 => (intro w hSw; (try dsimp only at hSw); go_simp; first | done | with_reducible rfl)
          simp only [Act.put, List.setIfInBounds_toArray, List.set_cons_zero, List.set_cons_succ]
          refine wpAnyH_take (i := 12) (oi := { dst := some 77, op := Op.move (Operand.tmp 76), type := 4, pos := "law.go:91", after := #[{ on := 11, ground := Ground.data }, { on := 10, ground := Ground.chain }], guard := none }) (v := ?vshown10) rfl (by kernel_rfl) (by kernel_rfl) (by kernel_rfl) (fun _ _ _ h => h) (Or.inl ⟨by rfl, ?yshown10⟩) hk ?rshown10
          case yshown10 => (intro w hSw; (try dsimp only at hSw); go_simp; first | done | with_reducible rfl)
          simp only [Act.put, List.setIfInBounds_toArray, List.set_cons_zero, List.set_cons_succ]
          refine wpAnyH_take (i := 13) (oi := { dst := some 78, op := Op.move (Operand.tmp 0), type := 22, pos := "law.go:91", after := #[{ on := 12, ground := Ground.guard }], guard := some (12, false) }) (v := ?vshown11) rfl (by kernel_rfl) (by kernel_rfl) (by kernel_rfl) (fun _ _ _ h => h) (Or.inl ⟨by rfl, ?yshown11⟩) hk ?rshown11
          case yshown11 => (intro w hSw; (try dsimp only at hSw); go_simp; first | done | with_reducible rfl)
          simp only [Act.put, List.setIfInBounds_toArray, List.set_cons_zero, List.set_cons_succ]
          refine wpAnyH_take (i := 14) (oi := { dst := some 79, op := Op.move (Operand.tmp 7), type := 3, pos := "law.go:91", after := #[{ on := 12, ground := Ground.guard }], guard := some (12, false) }) (v := ?vshown12) rfl (by kernel_rfl) (by kernel_rfl) (by kernel_rfl) (fun _ _ _ h => h) (Or.inl ⟨by rfl, ?yshown12⟩) hk ?rshown12
          case yshown12 => (intro w hSw; (try dsimp only at hSw); go_simp; first | done | with_reducible rfl)
          simp only [Act.put, List.setIfInBounds_toArray, List.set_cons_zero, List.set_cons_succ]
          refine wpAnyH_take (i := 15) (oi := { dst := some 80, op := Op.binOp BinOp.add 3 (Operand.tmp 79) (Operand.const (Value.int IntKind.i64 1)) 3, type := 3, pos := "law.go:91", after := #[{ on := 14, ground := Ground.data }, { on := 12, ground := Ground.guard }], guard := some (12, false) }) (v := ?vshown13) rfl (by kernel_rfl) (by kernel_rfl) (by kernel_rfl) (fun _ _ _ h => h) (Or.inl ⟨by rfl, ?yshown13⟩) hk ?rshown13
          case yshown13 => (intro w hSw; (try dsimp only at hSw); go_simp; first | done | with_reducible rfl)
          simp only [Act.put, List.setIfInBounds_toArray, List.set_cons_zero, List.set_cons_succ]
          refine wpAnyH_take (i := 16) (oi := { dst := some 81, op := Op.slice 22 (Operand.tmp 78) none (some (Operand.tmp 80)) none, type := 22, pos := "law.go:91", after := #[{ on := 13, ground := Ground.data }, { on := 15, ground := Ground.data }, { on := 12, ground := Ground.guard }], guard := some (12, false) }) (v := ?vshown14) rfl (by kernel_rfl) (by kernel_rfl) (by kernel_rfl) (fun _ _ _ h => h) (Or.inl ⟨by rfl, ?yshown14⟩) hk ?rshown14
          case yshown14 => (intro w hSw; (try dsimp only at hSw); go_simp; first | done | with_reducible rfl)
          simp only [Act.put, List.setIfInBounds_toArray, List.set_cons_zero, List.set_cons_succ]
          refine wpAnyH_take (i := 17) (oi := { dst := some 82, op := Op.move (Operand.tmp 1), type := 3, pos := "law.go:91", after := #[{ on := 12, ground := Ground.guard }], guard := some (12, false) }) (v := ?vshown15) rfl (by kernel_rfl) (by kernel_rfl) (by kernel_rfl) (fun _ _ _ h => h) (Or.inl ⟨by rfl, ?yshown15⟩) hk ?rshown15
          case yshown15 => (intro w hSw; (try dsimp only at hSw); go_simp; first | done | with_reducible rfl)
          simp only [Act.put, List.setIfInBounds_toArray, List.set_cons_zero, List.set_cons_succ]
          refine wpAnyH_take (i := 19) (oi := { dst := some 84, op := Op.move (Operand.tmp 7), type := 3, pos := "law.go:91", after := #[{ on := 12, ground := Ground.guard }], guard := some (12, false) }) (v := ?vshown16) rfl (by kernel_rfl) (by kernel_rfl) (by kernel_rfl) (fun _ _ _ h => h) (Or.inl ⟨by rfl, ?yshown16⟩) hk ?rshown16
          case yshown16 => (intro w hSw; (try dsimp only at hSw); go_simp; first | done | with_reducible rfl)
          simp only [Act.put, List.setIfInBounds_toArray, List.set_cons_zero, List.set_cons_succ]
          refine wpAnyH_take (i := 20) (oi := { dst := some 85, op := Op.binOp BinOp.add 3 (Operand.tmp 84) (Operand.const (Value.int IntKind.i64 1)) 3, type := 3, pos := "law.go:91", after := #[{ on := 19, ground := Ground.data }, { on := 12, ground := Ground.guard }], guard := some (12, false) }) (v := ?vshown17) rfl (by kernel_rfl) (by kernel_rfl) (by kernel_rfl) (fun _ _ _ h => h) (Or.inl ⟨by rfl, ?yshown17⟩) hk ?rshown17
          case yshown17 => (intro w hSw; (try dsimp only at hSw); go_simp; first | done | with_reducible rfl)
          simp only [Act.put, List.setIfInBounds_toArray, List.set_cons_zero, List.set_cons_succ]
          refine wpAnyH_take (i := 21) (oi := { dst := some 86, op := Op.load 26 (Operand.tmp 6), type := 26, pos := "law.go:91", after := #[{ on := 12, ground := Ground.guard }], guard := some (12, false) }) (v := .agg (bv RT).toArray) rfl (by kernel_rfl) (by kernel_rfl) (by kernel_rfl) (fun _ _ _ h => h) (yieldsIf_load_mid (by rfl) 26 (.tmp 6) rfl V 0 rfl (bv RT) _ (fun W h => range_row h.vr) Tryd.underlying26 rfl hdr) hk ?_
          simp only [Act.put, List.setIfInBounds_toArray, List.set_cons_zero, List.set_cons_succ]
          refine wpAnyH_take (i := 22) (oi := { dst := some 87, op := Op.move (Operand.tmp 0), type := 22, pos := "law.go:91", after := #[{ on := 12, ground := Ground.guard }], guard := some (12, false) }) (v := ?vshown18) rfl (by kernel_rfl) (by kernel_rfl) (by kernel_rfl) (fun _ _ _ h => h) (Or.inl ⟨by rfl, ?yshown18⟩) hk ?rshown18
          case yshown18 => (intro w hSw; (try dsimp only at hSw); go_simp; first | done | with_reducible rfl)
          simp only [Act.put, List.setIfInBounds_toArray, List.set_cons_zero, List.set_cons_succ]
          refine wpAnyH_take (i := 23) (oi := { dst := some 88, op := Op.call { callee := Callee.builtin Builtin.len, args := #[Operand.tmp 87], argTypes := #[22] }, type := 3, pos := "law.go:91", after := #[{ on := 22, ground := Ground.data }, { on := 12, ground := Ground.guard }], guard := some (12, false) }) (v := ?vshown19) rfl (by kernel_rfl) (by kernel_rfl) (by kernel_rfl) (fun _ _ _ h => h) (Or.inl ⟨by rfl, ?yshown19⟩) hk ?rshown19
          case yshown19 => (intro w hSw; (try dsimp only at hSw); go_simp; first | done | with_reducible rfl)
          simp only [Act.put, List.setIfInBounds_toArray, List.set_cons_zero, List.set_cons_succ]
          refine wpAnyH_take (i := 24) (oi := { dst := some 89, op := Op.move (Operand.tmp 10), type := 22, pos := "law.go:91", after := #[{ on := 12, ground := Ground.guard }], guard := some (12, false) }) (v := ?vshown20) rfl (by kernel_rfl) (by kernel_rfl) (by kernel_rfl) (fun _ _ _ h => h) (Or.inl ⟨by rfl, ?yshown20⟩) hk ?rshown20
          case yshown20 => (intro w hSw; (try dsimp only at hSw); go_simp; first | done | with_reducible rfl)
          simp only [Act.put, List.setIfInBounds_toArray, List.set_cons_zero, List.set_cons_succ]
          refine wpAnyH_take (i := 25) (oi := { dst := some 90, op := Op.move (Operand.tmp 1), type := 3, pos := "law.go:91", after := #[{ on := 12, ground := Ground.guard }], guard := some (12, false) }) (v := ?vshown21) rfl (by kernel_rfl) (by kernel_rfl) (by kernel_rfl) (fun _ _ _ h => h) (Or.inl ⟨by rfl, ?yshown21⟩) hk ?rshown21
          case yshown21 => (intro w hSw; (try dsimp only at hSw); go_simp; first | done | with_reducible rfl)
          simp only [Act.put, List.setIfInBounds_toArray, List.set_cons_zero, List.set_cons_succ]
          refine wpAnyH_ready (rs := [18]) (by decide +kernel) (by simp) ?_
          refine AllReadyH.cons (o := { dst := some 83, op := Op.call { callee := Callee.value (Operand.func 6), args := #[Operand.tmp 81, Operand.tmp 82], argTypes := #[22, 3] }, type := 26, pos := "law.go:91", after := #[{ on := 16, ground := Ground.data }, { on := 17, ground := Ground.data }, { on := 12, ground := Ground.chain }, { on := 12, ground := Ground.guard }], guard := some (12, false) }) rfl (fun K hK => ?_) AllReadyH.nil
          go_simp
          refine (HRR.out _ hk).mono ?_
          rintro e1 w18 ⟨rfl, hb1⟩
          replace hk := hk.step hb1
          clear hb1
          refine hK.out _ _ hk (fun _ => ?_)
          clear hK K
          try simp only [Act.put, List.setIfInBounds_toArray, List.set_cons_zero, List.set_cons_succ]
          refine wpAnyH_ready (rs := [26]) (by decide +kernel) (by simp) ?_
          refine AllReadyH.cons (o := { dst := some 91, op := Op.call { callee := Callee.value (Operand.func 10), args := #[Operand.tmp 83, Operand.tmp 85, Operand.tmp 86, Operand.tmp 88, Operand.tmp 89, Operand.tmp 90], argTypes := #[26, 3, 26, 3, 22, 3] }, type := 4, pos := "law.go:91", after := #[{ on := 18, ground := Ground.data }, { on := 20, ground := Ground.data }, { on := 21, ground := Ground.data }, { on := 23, ground := Ground.data }, { on := 24, ground := Ground.data }, { on := 25, ground := Ground.data }, { on := 18, ground := Ground.chain }, { on := 12, ground := Ground.guard }], guard := some (12, false) }) rfl (fun K hK => ?_) AllReadyH.nil
          go_simp
          refine (HCG.out _ hk).mono ?_
          rintro e1 w26 ⟨rfl, hb1⟩
          replace hk := hk.step hb1
          clear hb1
          refine hK.out _ _ hk (fun _ => ?_)
          clear hK K
          try simp only [Act.put, List.setIfInBounds_toArray, List.set_cons_zero, List.set_cons_succ]
          refine wpAnyH_take (i := 27) (oi := { dst := some 92, op := Op.unOp UnOp.not 4 (Operand.tmp 91), type := 4, pos := "law.go:91", after := #[{ on := 26, ground := Ground.data }, { on := 12, ground := Ground.guard }], guard := some (12, false) }) (v := ?vshown22) rfl (by kernel_rfl) (by kernel_rfl) (by kernel_rfl) (fun _ _ _ h => h) (Or.inl ⟨by rfl, ?yshown22⟩) hk ?rshown22
          case yshown22 => (intro w hSw; (try dsimp only at hSw); go_simp; first | done | with_reducible rfl)
          simp only [Act.put, List.setIfInBounds_toArray, List.set_cons_zero, List.set_cons_succ]
          refine wpAnyH_take (i := 28) (oi := { dst := some 93, op := Op.pick (Operand.tmp 77) (Operand.const (Value.bool true)) (Operand.tmp 92), type := 4, pos := "law.go:91", after := #[{ on := 12, ground := Ground.data }, { on := 27, ground := Ground.data }], guard := none }) (v := ?vshown23) rfl (by kernel_rfl) (by kernel_rfl) (by kernel_rfl) (fun _ _ _ h => h) (Or.inl ⟨by rfl, ?yshown23⟩) hk ?rshown23
          case yshown23 => (intro w hSw; (try dsimp only at hSw); go_simp; first | done | with_reducible rfl)
          simp only [Act.put, List.setIfInBounds_toArray, List.set_cons_zero, List.set_cons_succ]
          refine wpAnyH_done (by decide +kernel) ?_ _
          have hfin : SHs V RT w1 w26 := ⟨hk.low, hk.vr⟩
          clear hk hdr hdl
          go_wp2
          go_roundw
          case rel => exact ⟨k + 1, by omega, by go_num, hfin⟩
          case measure => simp [intOf]; omega
        · have hki : ¬ (k : Int) < (m : Int) := by omega
          have hT9 := hT1.below hSH.low
          go_wp2_with fail
          refine (lives_any _ hT9).mono ?_
          rintro e w9 ⟨rfl, hb9⟩
          have hlow := bstep (bstep hb1 hSH.low) hb9
          clear hSH hb9 hT9
          go_wp2
          go_ret
          exact ⟨rfl, hlow⟩

set_option maxRecDepth 100000 in
/-- what the walk gives, for every argument and every world that holds the table -/
theorem contract (H : Type) (enc : TypeId × Value → H) (W : World) (base : Nat) (args : Array Value) (ds gs : List (DataW H)) (before : List MemPlace)
    (hval0 : ∀ (j : Nat) t v, Tryd.f3.params[j]? = some t → args[j]? = some v → Value.okWide Tryd.prog W .any base t v)
    (hW : DataW.Whole enc Tryd.prog Tryd.f3.params.toList Rows.merkleShownSpec.vars false W args.toList ds gs before) (hL : laidMetH Tryd.prog Rows.merkleShownRow.laid W) :
    Calls Tryd.prog 3 args W fun e W' => ∃ v, e = .returned v ∧ Rows.merkleShownSpec.post enc Tryd.prog Tryd.f3 false true false false W args v W' := by
  have htab := tab_of_laid hL
  have hval : ∀ (j : Nat) t v, Tryd.f3.params[j]? = some t → args[j]? = some v → Value.okWide Tryd.prog W .any base t v := hval0
  have hW' := hW
  obtain ⟨p, q, hA0, hV, rfl, hfz, hnd⟩ := hW
  have hA : DataW.TrodAll enc Tryd.prog W 0 (fun _ => true) true Tryd.f3.params.toList args.toList ds p := hA0
  rw [Tryd.params3] at hA hval
  obtain ⟨v0, vs0, d0, ds0, p0, q0, hargs, rfl, rfl, h0, r0⟩ := trodAll_cons hA
  obtain ⟨v1, vs1, d1, ds1, p1, q1, rfl, rfl, rfl, h1, r1⟩ := trodAll_cons r0
  obtain ⟨rfl, rfl, rfl⟩ := trodAll_nil r1
  obtain rfl : args = #[v0, v1] := by cases args; simp_all
  obtain ⟨rfl, rfl⟩ := trodVars_none hV
  obtain ⟨a0, len0, cap0, rfl⟩ := okWide_slice Tryd.underlying22 (hval 0 22 v0 rfl rfl)
  have k0 := h0
  have lt0 : ∀ x ∈ p0, x.block < W.heap.size := by obtain ⟨m, hm⟩ := k0; exact DataW.trod_lt m _ _ _ hm
  have k1 := h1
  have lt1 : ∀ x ∈ p1, x.block < W.heap.size := by obtain ⟨m, hm⟩ := k1; exact DataW.trod_lt m _ _ _ hm
  obtain ⟨L, hL⟩ := open_dgs h0
  obtain ⟨x1, rfl, hx1⟩ := open_i64 (hval 1 3 v1 rfl rfl) h1
  clear hA0 hval0
  refine (walk a0 len0 cap0 L x1 W hL hx1 htab).mono fun e W' ⟨he, bel⟩ => ?_
  subst he
  exact ⟨_, rfl, _, _, _, [], _, [], hW', trodAll_mk1 (shut_bool Tryd.underlying4 _), (trodAll_cons_mk (Below.trod laidOut (by kernel_rfl) (of_decide_eq_true (by kernel_rfl)) k0 bel lt0) (trodAll_cons_mk (Below.trod laidOut (by kernel_rfl) (of_decide_eq_true (by kernel_rfl)) k1 bel lt1) trodAll_mk0)), rfl, bel.frame _, fun h => by cases h⟩

set_option maxRecDepth 100000 in
theorem laid_met (os : Os) : laidMet Tryd.prog Rows.merkleShownRow.laid (({ World.holding Tryd.prog os ⟨#[], #[], []⟩ with heap := (World.holding Tryd.prog os ⟨#[], #[], []⟩).heap.setIfInBounds 0 (.cells (uv keyL).toArray 69) } : World).forCall (fun _ _ => 0) ⟨#[], #[.slice none 0 0, .int .i64 0], []⟩).memory :=
  laidMet_of_run' 8 (by kernel_rfl) (by kernel_rfl)
set_option maxRecDepth 100000 in
theorem reads (os : Os) {H : Type} (enc : TypeId × Value → H) : ∃ places, DataW.whole enc Tryd.prog (({ World.holding Tryd.prog os ⟨#[], #[], []⟩ with heap := (World.holding Tryd.prog os ⟨#[], #[], []⟩).heap.setIfInBounds 0 (.cells (uv keyL).toArray 69) } : World).forCall (fun _ _ => 0) ⟨#[], #[.slice none 0 0, .int .i64 0], []⟩).memory Tryd.f3.params.toList Rows.merkleShownSpec.vars false (#[.slice none 0 0, .int .i64 0] : Array Value).toList 8 = some ([.nil, .lit (.int .i64 0)], [], places) :=
  ⟨[], by kernel_rfl⟩
set_option maxRecDepth 100000 in
theorem lifted (os : Os) (started : os.Started) (H : Type) (enc : TypeId × Value → H) (F : Stop.Interp) :
    ReturnsInHanded {} Tryd.checked os 3 .any ((OpenSpec.ofChange Rows.merkleShownSpec).preRow enc Tryd.prog Tryd.f3 Rows.merkleShownRow.domain false Rows.merkleShownRow.laid) (((OpenSpec.ofChange Rows.merkleShownSpec).at F).post enc Tryd.prog Tryd.f3 false true false false) := by
  obtain ⟨places, hx⟩ := reads os enc
  refine returnsInHanded_of_row (C := Tryd.checked) (s := OpenSpec.ofChange Rows.merkleShownSpec) own started (by kernel_rfl) Tryd.func3
    (witness_row_at (enc := enc) (C := Tryd.checked) false ({ World.holding Tryd.prog os ⟨#[], #[], []⟩ with heap := (World.holding Tryd.prog os ⟨#[], #[], []⟩).heap.setIfInBounds 0 (.cells (uv keyL).toArray 69) } : World) #[.slice none 0 0, .int .i64 0] rfl (by kernel_rfl) (by kernel_rfl) (by kernel_rfl)
      (OpenSpec.preRow_of_cond 8 hx (by kernel_rfl) (fun k hk => by cases hk) (by kernel_rfl) (laid_met os))) ?_
  intro W base args ds gs before hval hW _ _ _ hL _ _
  exact contract H enc W base args ds gs before hval hW hL
theorem said : Rows.MerkleShownSaid :=
  OpenClaim.holds_of_cond 3 Tryd.f3 rfl rfl rfl rfl rfl rfl rfl ⟨rfl, rfl, rfl, rfl, rfl⟩ rfl rfl rfl rfl rfl (by kernel_rfl) Tryd.func3 (by kernel_rfl)
    (of_decide_eq_true (by kernel_rfl)) (by unfold Func.isWrapper; first | (rw [if_pos (by decide +kernel)]; kernel_rfl) | (rw [if_neg (by decide +kernel)]; exact ⟨rfl, rfl⟩))
    (fun os started H enc _ F => by rw [OpenClaim.pre_eq_preRow]; exact lifted os started H enc F)
theorem plain (f : FuncId) (fn : Func) (hf : Tryd.pinned.checked.prog.funcNamed "inquest/inquestlaw06.MerkleShown" = some f) (hfn : Tryd.pinned.checked.prog.funcs[f]? = some fn) :
    false = Tryd.pinned.checked.prog.looks [] ∧ ∀ (j : Nat) t, fn.params[j]? = some t → Tryd.pinned.checked.prog.wantsStandIn t = false := by
  obtain rfl : f = 3 := Option.some.inj ((show Tryd.prog.funcNamed "inquest/inquestlaw06.MerkleShown" = some 3 by kernel_rfl).symm.trans hf) |>.symm
  obtain rfl : fn = Tryd.f3 := (Option.some.inj (Tryd.func3.symm.trans hfn)).symm
  refine ⟨by kernel_rfl, fun j t ht => ?_⟩
  rw [Tryd.params3] at ht
  have hall : ([22, 3].all fun u => !Tryd.prog.wantsStandIn u) = true := by kernel_rfl
  have hm : t ∈ [22, 3] := by simpa using Array.mem_of_getElem? ht
  exact (show Tryd.prog.wantsStandIn t = false by simpa using List.all_eq_true.1 hall t hm)
/-- the tied card -/
theorem card : Rows.MerkleShownCardSaid :=
  Claim7.holds_tied_plain_at .later [] _ _ _ _ said (fun _ h => by cases h) (by kernel_rfl) (fun _ h => by cases h) merkleShown_row_tie rfl ⟨rfl, rfl⟩ (by kernel_rfl) rfl plain (by kernel_rfl)
end Go.Proofs.YtaphbenkkicbhabDoor.merkleShown
namespace Go.Proofs.YtaphbenkkicbhabDoor
theorem merkleShown_holds : Rows.MerkleShownCardSaid := merkleShown.card
#print axioms merkleShown_holds
end Go.Proofs.YtaphbenkkicbhabDoor
