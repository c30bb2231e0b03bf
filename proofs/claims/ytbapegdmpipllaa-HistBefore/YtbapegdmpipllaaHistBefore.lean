/- HistBefore: what is before is an order, of any operations of a history. -/
import Derived.Test.YtbapegdmpipllaaRows
import Derived.Test.YtbapegdmpipllaaEvIn
import Derived.Test.YtbapegdmpipllaaHLives
import Derived.Test.YtbapegdmpipllaaRHOps
import Derived.Test.YtbapegdmpipllaaHBSt
import Derived.Test.YtbapegdmpipllaaLeast
import Derived.WalkKit
import Derived.ProofKit
import Derived.OpenShut
import Derived.ShutString
import Derived.ChangeOld
import Derived.Below
namespace Go.Proofs.Ytbapegdmpipllaa.histBefore
open Go.ChangeShapes Go.WideShapes Go.ChangeAt Go.RowKit
open Go.ChangeMaps (open_string shut_string)
set_option linter.unusedVariables false

theorem own : ownKnob Try.prog.godebug = none := by kernel_rfl
theorem laidOut : laidOutB Try.prog = true := by kernel_rfl


set_option maxRecDepth 100000 in
set_option maxHeartbeats 4000000 in
theorem walk (a0 : Option Addr) (len0 cap0 : Nat) (l : List Ev) (i : Int) (j : Int) (k : Int) (w : World) (hl : EvsI w a0 len0 cap0 l) (hi : I64 i) (hj : I64 j) (hk : I64 k) :
    Calls Try.prog 8 #[.slice a0 len0 cap0, .int .i64 i, .int .i64 j, .int .i64 k] w fun e w' => e = .returned (.bool true) ∧ Below w.heap.size w w' := by
  have HL := Bx.mk hl.1
  clear hl
  go_enter Try.func8, Try.ntmps8
  go_wp2_with fail
  refine (few14_any a0 len0 cap0 128 l _ HL.out (by decide) (by decide)).mono ?_
  rintro e w1 ⟨v1, rfl, ho1, hb1⟩
  obtain ⟨L, HLL⟩ : ∃ L, Bx (l.take 128 = L) := ⟨_, ⟨rfl⟩⟩
  rw [HLL.out] at ho1
  have hL128 : L.length ≤ 128 := by rw [← HLL.out, List.length_take]; omega
  obtain ⟨a2, c2, rfl, hE1⟩ := Ls.of_owns evC_len ho1 rfl
  have HE1 := Bx.mk hE1
  have HB1 := Bx.mk hb1
  clear ho1 hE1 hb1
  go_wp2_with fail
  refine (refops_any a2 L.length c2 L _ HE1.out).mono ?_
  rintro e w3 ⟨v3, rfl, ho3, hb3⟩
  obtain ⟨a3, c3, rfl, hO3⟩ := Ls.of_owns orC_len ho3 rfl
  have HO3 := Bx.mk hO3
  have HB3 := Bx.mk (bstep HB1.out hb3)
  clear ho3 hO3 hb3 HE1 HB1
  by_cases hok : (chk L).2 = 0 ∧ (opV L).length ≠ 0
  · obtain ⟨hok, hne⟩ := hok
    rw [opV_ok hok] at HO3 hne ⊢
    have HINV := Bx.mk (ops_all (l := L) hok)
    have HO64 : Bx ((opsL L).length ≤ 64) := ⟨by rw [ops_len]; have := cOf_le L hok L.length (Nat.le_refl _); rwa [List.take_length] at this⟩
    rw [hok]
    generalize opsL L = O at HINV HO3 HO64 hne ⊢
    obtain ⟨n, HNL⟩ : ∃ n, Bx (O.length = n) := ⟨_, ⟨rfl⟩⟩
    rw [HNL.out] at HO3 hne HO64 ⊢
    have hn64 := HO64.out
    have hnq : ((n : Int) == 0) = false := by simp; omega
    clear hok
    obtain ⟨b, off, rfl, hbl, _⟩ := HO3.out.or 0 (by omega)
    have hbd := fun x => least_bd x 0 ((n : Int) - 1) (by omega)
    obtain ⟨n1, HE1⟩ : ∃ n1 : Nat, Bx (leastV i 0 ((n : Int) - 1) = n1) := ⟨(leastV i 0 ((n : Int) - 1)).toNat, ⟨by have := hbd i; omega⟩⟩
    obtain ⟨n2, HE2⟩ : ∃ n2 : Nat, Bx (leastV j 0 ((n : Int) - 1) = n2) := ⟨(leastV j 0 ((n : Int) - 1)).toNat, ⟨by have := hbd j; omega⟩⟩
    obtain ⟨n3, HE3⟩ : ∃ n3 : Nat, Bx (leastV k 0 ((n : Int) - 1) = n3) := ⟨(leastV k 0 ((n : Int) - 1)).toNat, ⟨by have := hbd k; omega⟩⟩
    have h1 : n1 < n := by have := hbd i; rw [HE1.out] at this; omega
    have h2 : n2 < n := by have := hbd j; rw [HE2.out] at this; omega
    have h3 : n3 < n := by have := hbd k; rw [HE3.out] at this; omega
    have HR1 := Bx.mk (or_cellsAt HO3.out n1 h1 rfl)
    have HR2 := Bx.mk (or_cellsAt HO3.out n2 h2 rfl)
    have HR3 := Bx.mk (or_cellsAt HO3.out n3 h3 rfl)
    have HM : Bx (∀ x, x < n → (O.getD x op0) ∈ O) := ⟨fun x hx => get_mem (by rw [HNL.out]; exact hx)⟩
    have HD1 := Bx.mk (fun hd => (HINV.out.don _ (HM.out n1 h1) hd).1)
    have HD2 := Bx.mk (fun hd => (HINV.out.don _ (HM.out n2 h2) hd).1)
    have HD3 := Bx.mk (fun hd => (HINV.out.don _ (HM.out n3 h3) hd).1)
    generalize O.getD n1 op0 = p1 at HR1 HD1
    generalize O.getD n2 op0 = p2 at HR2 HD2
    generalize O.getD n3 op0 = p3 at HR3 HD3
    have hw : IntKind.i64.wrap ((n : Int) - 1) = (n : Int) - 1 := IntWalk.i64_in _ (by omega)
    clear hbd
    go_upto_region 5 with fail
    go_cut [11, 12, 13] from 32 to 55 (fun s11 s12 s13 wx => ∃ ga gb gc, s11 = .pointer (some ⟨ga, 0, none⟩) ∧ s12 = .pointer (some ⟨gb, 0, none⟩) ∧ s13 = .pointer (some ⟨gc, 0, none⟩) ∧ Bx (B3 w3 ga gb gc p1 p2 p3 wx))
    case first =>
      refine wp_region_held_drew (ops := hbNR) (S := fun W : World => Below w3.heap.size w3 W) (by kernel_rfl) ((Below.refl _ _).drew) (fun hk => ?_)
      refine hbNAll w3 a2 L.length c2 i j k b off n c3 a0 len0 cap0 p1 p2 p3 n1 n2 n3 h1 h2 h3 hn64 hbl HR1.out HR2.out HR3.out HE1.out HE2.out HE3.out hw (fun d _ _ _ _ h => by cases d <;> exact h) ?_ _ hk
      intro wk hkk ga hga qga gb hgb qgb gc hgc qgc nab nac nbc
      go_wp2_with fail
      go_meet
      case rel => exact ⟨ga, gb, gc, rfl, rfl, rfl, ⟨hkk, hga, hgb, hgc⟩⟩
    case rest =>
      obtain ⟨ga, gb, gc, rfl, rfl, rfl, HK⟩ := hcut
      have hk : B3 w3 ga gb gc p1 p2 p3 wc.drew := HK.out.drew
      obtain ⟨wk, hwk⟩ : ∃ wk, wk = wc := ⟨_, rfl⟩
      subst hwk
      clear HK HR1 HR2 HR3 HE1 HE2 HE3 HM HINV hw hnq
      go_wp2_with fail
      refine wp_region_held_drew (S := fun W => B3 w3 ga gb gc p1 p2 p3 W) (by kernel_rfl) hk (fun _ => ?_)
      generalize wk.drew = wk at hk ⊢
      refine wpAnyH_take (i := 0) (oi := { dst := some 56, op := Op.load 53 (Operand.tmp 11), type := 53, pos := "law.go:112", after := #[], guard := none }) (v := .agg (orC p1).toArray) rfl (by kernel_rfl) (by kernel_rfl) (by kernel_rfl) (fun _ _ _ h => h) (yieldsIf_load_mid (by rfl) 53 (.tmp 11) rfl ga 0 rfl (orC p1) _ (fun W h => or_range h.ra) Try.underlying53 rfl op_info) hk ?_
      simp only [Act.put, List.setIfInBounds_toArray, List.set_cons_zero, List.set_cons_succ]
      refine wpAnyH_take (i := 1) (oi := { dst := some 57, op := Op.load 53 (Operand.tmp 12), type := 53, pos := "law.go:112", after := #[], guard := none }) (v := .agg (orC p2).toArray) rfl (by kernel_rfl) (by kernel_rfl) (by kernel_rfl) (fun _ _ _ h => h) (yieldsIf_load_mid (by rfl) 53 (.tmp 12) rfl gb 0 rfl (orC p2) _ (fun W h => or_range h.rb) Try.underlying53 rfl op_info) hk ?_
      simp only [Act.put, List.setIfInBounds_toArray, List.set_cons_zero, List.set_cons_succ]
      refine wpAnyH_take (i := 3) (oi := { dst := some 59, op := Op.load 53 (Operand.tmp 12), type := 53, pos := "law.go:112", after := #[], guard := none }) (v := .agg (orC p2).toArray) rfl (by kernel_rfl) (by kernel_rfl) (by kernel_rfl) (fun _ _ _ h => h) (yieldsIf_load_mid (by rfl) 53 (.tmp 12) rfl gb 0 rfl (orC p2) _ (fun W h => or_range h.rb) Try.underlying53 rfl op_info) hk ?_
      simp only [Act.put, List.setIfInBounds_toArray, List.set_cons_zero, List.set_cons_succ]
      refine wpAnyH_take (i := 4) (oi := { dst := some 60, op := Op.load 53 (Operand.tmp 13), type := 53, pos := "law.go:112", after := #[], guard := none }) (v := .agg (orC p3).toArray) rfl (by kernel_rfl) (by kernel_rfl) (by kernel_rfl) (fun _ _ _ h => h) (yieldsIf_load_mid (by rfl) 53 (.tmp 13) rfl gc 0 rfl (orC p3) _ (fun W h => or_range h.rc) Try.underlying53 rfl op_info) hk ?_
      simp only [Act.put, List.setIfInBounds_toArray, List.set_cons_zero, List.set_cons_succ]
      refine wpAnyH_take (i := 6) (oi := { dst := some 62, op := Op.load 53 (Operand.tmp 11), type := 53, pos := "law.go:112", after := #[], guard := none }) (v := .agg (orC p1).toArray) rfl (by kernel_rfl) (by kernel_rfl) (by kernel_rfl) (fun _ _ _ h => h) (yieldsIf_load_mid (by rfl) 53 (.tmp 11) rfl ga 0 rfl (orC p1) _ (fun W h => or_range h.ra) Try.underlying53 rfl op_info) hk ?_
      simp only [Act.put, List.setIfInBounds_toArray, List.set_cons_zero, List.set_cons_succ]
      refine wpAnyH_take (i := 7) (oi := { dst := some 63, op := Op.load 53 (Operand.tmp 13), type := 53, pos := "law.go:112", after := #[], guard := none }) (v := .agg (orC p3).toArray) rfl (by kernel_rfl) (by kernel_rfl) (by kernel_rfl) (fun _ _ _ h => h) (yieldsIf_load_mid (by rfl) 53 (.tmp 13) rfl gc 0 rfl (orC p3) _ (fun W h => or_range h.rc) Try.underlying53 rfl op_info) hk ?_
      simp only [Act.put, List.setIfInBounds_toArray, List.set_cons_zero, List.set_cons_succ]
      refine wpAnyH_ready (rs := [2]) (by decide +kernel) (by simp) ?_
      refine AllReadyH.cons (o := { dst := some 58, op := Op.call { callee := Callee.value (Operand.func 24), args := #[Operand.tmp 56, Operand.tmp 57], argTypes := #[53, 53] }, type := 4, pos := "law.go:112", after := #[{ on := 0, ground := Ground.data }, { on := 1, ground := Ground.data }], guard := none }) rfl (fun K hK => ?_) AllReadyH.nil
      go_simp
      refine (before_or p1 p2 _).mono ?_
      rintro e1 wk ⟨rfl, hb1⟩
      replace hk := hk.step hb1
      clear hb1
      refine hK.out _ _ hk (fun _ => ?_)
      clear hK K
      try simp only [Act.put, List.setIfInBounds_toArray, List.set_cons_zero, List.set_cons_succ]
      refine wpAnyH_ready (rs := [5]) (by decide +kernel) (by simp) ?_
      refine AllReadyH.cons (o := { dst := some 61, op := Op.call { callee := Callee.value (Operand.func 24), args := #[Operand.tmp 59, Operand.tmp 60], argTypes := #[53, 53] }, type := 4, pos := "law.go:112", after := #[{ on := 3, ground := Ground.data }, { on := 4, ground := Ground.data }, { on := 2, ground := Ground.chain }], guard := none }) rfl (fun K hK => ?_) AllReadyH.nil
      go_simp
      refine (before_or p2 p3 _).mono ?_
      rintro e1 wk ⟨rfl, hb1⟩
      replace hk := hk.step hb1
      clear hb1
      refine hK.out _ _ hk (fun _ => ?_)
      clear hK K
      try simp only [Act.put, List.setIfInBounds_toArray, List.set_cons_zero, List.set_cons_succ]
      refine wpAnyH_ready (rs := [8]) (by decide +kernel) (by simp) ?_
      refine AllReadyH.cons (o := { dst := some 64, op := Op.call { callee := Callee.value (Operand.func 24), args := #[Operand.tmp 62, Operand.tmp 63], argTypes := #[53, 53] }, type := 4, pos := "law.go:112", after := #[{ on := 6, ground := Ground.data }, { on := 7, ground := Ground.data }, { on := 5, ground := Ground.chain }], guard := none }) rfl (fun K hK => ?_) AllReadyH.nil
      go_simp
      refine (before_or p1 p3 _).mono ?_
      rintro e1 wk ⟨rfl, hb1⟩
      replace hk := hk.step hb1
      clear hb1
      refine hK.out _ _ hk (fun _ => ?_)
      clear hK K
      try simp only [Act.put, List.setIfInBounds_toArray, List.set_cons_zero, List.set_cons_succ]
      refine wpAnyH_take (i := 9) (oi := { dst := some 14, op := Op.assign (Operand.tmp 58), type := 4, pos := "law.go:112", after := #[{ on := 2, ground := Ground.data }, { on := 8, ground := Ground.chain }, { on := 0, ground := Ground.phase }, { on := 1, ground := Ground.phase }, { on := 2, ground := Ground.phase }, { on := 3, ground := Ground.textOnly Departure.lateStores }, { on := 4, ground := Ground.textOnly Departure.lateStores }, { on := 5, ground := Ground.textOnly Departure.lateStoresUnsure }, { on := 6, ground := Ground.textOnly Departure.lateStores }, { on := 7, ground := Ground.textOnly Departure.lateStores }, { on := 8, ground := Ground.textOnly Departure.lateStoresUnsure }], guard := none }) (v := ?vhb61) rfl (by kernel_rfl) (by kernel_rfl) (by kernel_rfl) (fun _ _ _ h => h) (Or.inl ⟨by rfl, ?yhb61⟩) hk ?rhb61
      case yhb61 => (intro w hSw; (try dsimp only at hSw); go_simp; first | done | with_reducible rfl)
      simp only [Act.put, List.setIfInBounds_toArray, List.set_cons_zero, List.set_cons_succ]
      refine wpAnyH_take (i := 10) (oi := { dst := some 15, op := Op.assign (Operand.tmp 61), type := 4, pos := "law.go:112", after := #[{ on := 5, ground := Ground.data }, { on := 9, ground := Ground.chain }, { on := 0, ground := Ground.phase }, { on := 1, ground := Ground.phase }, { on := 2, ground := Ground.phase }, { on := 3, ground := Ground.phase }, { on := 4, ground := Ground.phase }, { on := 5, ground := Ground.phase }, { on := 6, ground := Ground.textOnly Departure.lateStores }, { on := 7, ground := Ground.textOnly Departure.lateStores }, { on := 8, ground := Ground.textOnly Departure.lateStoresUnsure }, { on := 9, ground := Ground.phase }], guard := none }) (v := ?vhb62) rfl (by kernel_rfl) (by kernel_rfl) (by kernel_rfl) (fun _ _ _ h => h) (Or.inl ⟨by rfl, ?yhb62⟩) hk ?rhb62
      case yhb62 => (intro w hSw; (try dsimp only at hSw); go_simp; first | done | with_reducible rfl)
      simp only [Act.put, List.setIfInBounds_toArray, List.set_cons_zero, List.set_cons_succ]
      refine wpAnyH_take (i := 11) (oi := { dst := some 16, op := Op.assign (Operand.tmp 64), type := 4, pos := "law.go:112", after := #[{ on := 8, ground := Ground.data }, { on := 10, ground := Ground.chain }, { on := 0, ground := Ground.phase }, { on := 1, ground := Ground.phase }, { on := 2, ground := Ground.phase }, { on := 3, ground := Ground.phase }, { on := 4, ground := Ground.phase }, { on := 5, ground := Ground.phase }, { on := 6, ground := Ground.phase }, { on := 7, ground := Ground.phase }, { on := 8, ground := Ground.phase }, { on := 9, ground := Ground.phase }, { on := 10, ground := Ground.phase }], guard := none }) (v := ?vhb63) rfl (by kernel_rfl) (by kernel_rfl) (by kernel_rfl) (fun _ _ _ h => h) (Or.inl ⟨by rfl, ?yhb63⟩) hk ?rhb63
      case yhb63 => (intro w hSw; (try dsimp only at hSw); go_simp; first | done | with_reducible rfl)
      simp only [Act.put, List.setIfInBounds_toArray, List.set_cons_zero, List.set_cons_succ]
      refine wpAnyH_done (by decide +kernel) ?_ _
      have HI1 := Bx.mk (bef_irr HD1.out)
      have HAS : Bx (befO p1 p2 = true → befO p2 p1 = false) := ⟨fun h => bef_asym HD1.out HD2.out h⟩
      have HTR : Bx (befO p1 p2 = true → befO p2 p3 = true → befO p1 p3 = true) := ⟨fun ha hb => bef_trans HD2.out ha hb⟩
      have HBA := Bx.mk (fun W => before_any p1 p1 W)
      have HBB := Bx.mk (fun W => before_any p2 p1 W)
      have HBC := Bx.mk (fun W => refbefore_any p1 p2 W)
      rw [HI1.out] at HBA
      obtain ⟨x, HX⟩ : ∃ x, Bx (befO p1 p2 = x) := ⟨_, ⟨rfl⟩⟩
      obtain ⟨y, HY⟩ : ∃ y, Bx (befO p2 p3 = y) := ⟨_, ⟨rfl⟩⟩
      obtain ⟨z, HZ⟩ : ∃ z, Bx (befO p1 p3 = z) := ⟨_, ⟨rfl⟩⟩
      obtain ⟨v, HV⟩ : ∃ v, Bx (befO p2 p1 = v) := ⟨_, ⟨rfl⟩⟩
      rw [HX.out, HY.out, HZ.out]
      rw [HX.out] at HAS HTR HBC
      rw [HY.out, HZ.out] at HTR
      rw [HV.out] at HAS HBB
      clear HX HY HZ HV HI1 HD1 HD2 HD3
      have HK := Bx.mk hk
      clear hk
      obtain ⟨ca0, ca1, ca2, ca3, ca4, ca5, ca6⟩ := or_at HK.out.ra
      obtain ⟨cb0, cb1, cb2, cb3, cb4, cb5, cb6⟩ := or_at HK.out.rb
      cases x with
      | false =>
        go_wp2_with fail
        refine (HBC.out _).mono ?_
        rintro e w6 ⟨rfl, hb⟩
        replace HK := Bx.mk (HK.out.step hb)
        clear hb ca0 ca1 ca2 ca3 ca4 ca5 ca6 cb0 cb1 cb2 cb3 cb4 cb5 cb6
        obtain ⟨ca0, ca1, ca2, ca3, ca4, ca5, ca6⟩ := or_at HK.out.ra
        obtain ⟨cb0, cb1, cb2, cb3, cb4, cb5, cb6⟩ := or_at HK.out.rb
        go_wp2_with fail
        refine (HBA.out _).mono ?_
        rintro e w7 ⟨rfl, hb⟩
        replace HK := Bx.mk (HK.out.step hb)
        clear hb ca0 ca1 ca2 ca3 ca4 ca5 ca6 cb0 cb1 cb2 cb3 cb4 cb5 cb6
        obtain ⟨ca0, ca1, ca2, ca3, ca4, ca5, ca6⟩ := or_at HK.out.ra
        obtain ⟨cb0, cb1, cb2, cb3, cb4, cb5, cb6⟩ := or_at HK.out.rb
        go_wp2_with fail
        have HBE := Bx.mk (bstep HB3.out HK.out.bel)
        refine (lives14_any _).mono ?_
        rintro e w9 ⟨rfl, hb9⟩
        have hfin := bstep HBE.out hb9
        go_wp2_with fail
        go_ret
        exact ⟨rfl, hfin⟩
      | true =>
        have hv : v = false := HAS.out rfl
        subst hv
        cases y with
        | false =>
          go_wp2_with fail
          refine (HBC.out _).mono ?_
          rintro e w6 ⟨rfl, hb⟩
          replace HK := Bx.mk (HK.out.step hb)
          clear hb ca0 ca1 ca2 ca3 ca4 ca5 ca6 cb0 cb1 cb2 cb3 cb4 cb5 cb6
          obtain ⟨ca0, ca1, ca2, ca3, ca4, ca5, ca6⟩ := or_at HK.out.ra
          obtain ⟨cb0, cb1, cb2, cb3, cb4, cb5, cb6⟩ := or_at HK.out.rb
          go_wp2_with fail
          refine (HBA.out _).mono ?_
          rintro e w7 ⟨rfl, hb⟩
          replace HK := Bx.mk (HK.out.step hb)
          clear hb ca0 ca1 ca2 ca3 ca4 ca5 ca6 cb0 cb1 cb2 cb3 cb4 cb5 cb6
          obtain ⟨ca0, ca1, ca2, ca3, ca4, ca5, ca6⟩ := or_at HK.out.ra
          obtain ⟨cb0, cb1, cb2, cb3, cb4, cb5, cb6⟩ := or_at HK.out.rb
          go_wp2_with fail
          refine (HBB.out _).mono ?_
          rintro e w8 ⟨rfl, hb⟩
          replace HK := Bx.mk (HK.out.step hb)
          clear hb ca0 ca1 ca2 ca3 ca4 ca5 ca6 cb0 cb1 cb2 cb3 cb4 cb5 cb6
          obtain ⟨ca0, ca1, ca2, ca3, ca4, ca5, ca6⟩ := or_at HK.out.ra
          obtain ⟨cb0, cb1, cb2, cb3, cb4, cb5, cb6⟩ := or_at HK.out.rb
          go_wp2_with fail
          have HBE := Bx.mk (bstep HB3.out HK.out.bel)
          refine (lives14_any _).mono ?_
          rintro e w9 ⟨rfl, hb9⟩
          have hfin := bstep HBE.out hb9
          go_wp2_with fail
          go_ret
          exact ⟨rfl, hfin⟩
        | true =>
          have hz : z = true := HTR.out rfl rfl
          subst hz
          go_wp2_with fail
          refine (HBC.out _).mono ?_
          rintro e w6 ⟨rfl, hb⟩
          replace HK := Bx.mk (HK.out.step hb)
          clear hb ca0 ca1 ca2 ca3 ca4 ca5 ca6 cb0 cb1 cb2 cb3 cb4 cb5 cb6
          obtain ⟨ca0, ca1, ca2, ca3, ca4, ca5, ca6⟩ := or_at HK.out.ra
          obtain ⟨cb0, cb1, cb2, cb3, cb4, cb5, cb6⟩ := or_at HK.out.rb
          go_wp2_with fail
          refine (HBA.out _).mono ?_
          rintro e w7 ⟨rfl, hb⟩
          replace HK := Bx.mk (HK.out.step hb)
          clear hb ca0 ca1 ca2 ca3 ca4 ca5 ca6 cb0 cb1 cb2 cb3 cb4 cb5 cb6
          obtain ⟨ca0, ca1, ca2, ca3, ca4, ca5, ca6⟩ := or_at HK.out.ra
          obtain ⟨cb0, cb1, cb2, cb3, cb4, cb5, cb6⟩ := or_at HK.out.rb
          go_wp2_with fail
          refine (HBB.out _).mono ?_
          rintro e w8 ⟨rfl, hb⟩
          replace HK := Bx.mk (HK.out.step hb)
          clear hb ca0 ca1 ca2 ca3 ca4 ca5 ca6 cb0 cb1 cb2 cb3 cb4 cb5 cb6
          obtain ⟨ca0, ca1, ca2, ca3, ca4, ca5, ca6⟩ := or_at HK.out.ra
          obtain ⟨cb0, cb1, cb2, cb3, cb4, cb5, cb6⟩ := or_at HK.out.rb
          go_wp2_with fail
          have HBE := Bx.mk (bstep HB3.out HK.out.bel)
          refine (lives14_any _).mono ?_
          rintro e w9 ⟨rfl, hb9⟩
          have hfin := bstep HBE.out hb9
          go_wp2_with fail
          go_ret
          exact ⟨rfl, hfin⟩
  · have hcond : ((chk L).2 != 0) = true ∨ ((chk L).2 = 0 ∧ (opV L).length = 0) := by
      by_cases h : (chk L).2 = 0
      · exact .inr ⟨h, Classical.byContradiction fun h2 => hok ⟨h, h2⟩⟩
      · exact .inl (by simpa using h)
    clear hok
    rcases hcond with hq | ⟨hq, hl0⟩
    · generalize (chk L).2 = ce at hq
      go_wp2_with fail
      refine (lives14_any _).mono ?_
      rintro e w9 ⟨rfl, hb9⟩
      have hfin := bstep HB3.out hb9
      go_wp2_with fail
      go_ret
      exact ⟨rfl, hfin⟩
    · rw [hq, hl0]
      clear hq hl0
      go_wp2_with fail
      refine (lives14_any _).mono ?_
      rintro e w9 ⟨rfl, hb9⟩
      have hfin := bstep HB3.out hb9
      go_wp2_with fail
      go_ret
      exact ⟨rfl, hfin⟩

set_option maxRecDepth 100000 in
theorem lifted (os : Os) (started : os.Started) (H : Type) (enc : TypeId × Value → H) :
    ReturnsInHanded {} Try.checked os 8 .any (Rows.histBeforeSpec.pre6 enc Try.prog Try.f8 Rows.histBeforeRow.domain false) (Rows.histBeforeSpec.post enc Try.prog Try.f8 false true false false) := by
  refine returnsInHanded_of_change (C := Try.checked) own started (by kernel_rfl) Try.func8
    (ChangeSpec.witness6 (enc := enc) (C := Try.checked) false ⟨#[], #[.slice none 0 0, .int .i64 0, .int .i64 0, .int .i64 0], []⟩ 8 (by kernel_rfl) (by kernel_rfl) (by kernel_rfl) (by kernel_rfl)) ?_
  intro W base args ds gs before hval0 hW hcnd _
  have hval : ∀ (j : Nat) t v, Try.f8.params[j]? = some t → args[j]? = some v → Value.okWide Try.prog W .any base t v := hval0
  have hW' := hW
  obtain ⟨p, q, hA0, hV, rfl, hfz, hnd⟩ := hW
  have hA : DataW.TrodAll enc Try.prog W 0 (fun _ => true) true Try.f8.params.toList args.toList ds p := hA0
  rw [Try.params8] at hA hval
  obtain ⟨v0, vs0, d0, ds0, p0, q0, hargs, rfl, rfl, h0, r0⟩ := trodAll_cons hA
  obtain ⟨v1, vs1, d1, ds1, p1, q1, rfl, rfl, rfl, h1, r1⟩ := trodAll_cons r0
  obtain ⟨v2, vs2, d2, ds2, p2, q2, rfl, rfl, rfl, h2, r2⟩ := trodAll_cons r1
  obtain ⟨v3, vs3, d3, ds3, p3, q3, rfl, rfl, rfl, h3, r3⟩ := trodAll_cons r2
  obtain ⟨rfl, rfl, rfl⟩ := trodAll_nil r3
  obtain rfl : args = #[v0, v1, v2, v3] := by cases args; simp_all
  obtain ⟨rfl, rfl⟩ := trodVars_none hV
  obtain ⟨a0, len0, cap0, rfl⟩ := okWide_slice Try.underlying22 (hval 0 22 v0 rfl rfl)
  have k0 := h0
  have lt0 : ∀ x ∈ p0, x.block < W.heap.size := by obtain ⟨m, hm⟩ := k0; exact DataW.trod_lt m _ _ _ hm
  have k1 := h1
  have lt1 : ∀ x ∈ p1, x.block < W.heap.size := by obtain ⟨m, hm⟩ := k1; exact DataW.trod_lt m _ _ _ hm
  have k2 := h2
  have lt2 : ∀ x ∈ p2, x.block < W.heap.size := by obtain ⟨m, hm⟩ := k2; exact DataW.trod_lt m _ _ _ hm
  have k3 := h3
  have lt3 : ∀ x ∈ p3, x.block < W.heap.size := by obtain ⟨m, hm⟩ := k3; exact DataW.trod_lt m _ _ _ hm
  obtain ⟨l, hl⟩ := open_evs h0
  obtain ⟨i, rfl, hi⟩ := open_i64 (hval 1 3 v1 rfl rfl) h1
  obtain ⟨j, rfl, hj⟩ := open_i64 (hval 2 3 v2 rfl rfl) h2
  obtain ⟨k, rfl, hk⟩ := open_i64 (hval 3 3 v3 rfl rfl) h3
  clear hA0 hval0
  refine (walk a0 len0 cap0 l i j k W hl hi hj hk).mono fun e W' ⟨he, bel⟩ => ?_
  subst he
  exact ⟨_, rfl, _, _, _, [], _, [], hW', trodAll_mk1 (shut_bool Try.underlying4 _), (trodAll_cons_mk (Below.trod laidOut (by kernel_rfl) (of_decide_eq_true (by kernel_rfl)) k0 bel lt0) (trodAll_cons_mk (Below.trod laidOut (by kernel_rfl) (of_decide_eq_true (by kernel_rfl)) k1 bel lt1) (trodAll_cons_mk (Below.trod laidOut (by kernel_rfl) (of_decide_eq_true (by kernel_rfl)) k2 bel lt2) (trodAll_cons_mk (Below.trod laidOut (by kernel_rfl) (of_decide_eq_true (by kernel_rfl)) k3 bel lt3) trodAll_mk0)))), rfl, bel.frame _, fun h => by cases h⟩

theorem over : Rows.histBeforeRow.holds Try.pinned (OpenSpec.ofChange Rows.histBeforeSpec) :=
  OpenClaim.holds_of_wide 8 Try.f8 rfl rfl rfl rfl rfl rfl rfl ⟨rfl, rfl, rfl, rfl, rfl⟩ rfl rfl rfl rfl rfl (by kernel_rfl) Try.func8 (by kernel_rfl)
    (of_decide_eq_true (by kernel_rfl)) (by unfold Func.isWrapper; first | (rw [if_pos (by decide +kernel)]; kernel_rfl) | (rw [if_neg (by decide +kernel)]; exact ⟨rfl, rfl⟩))
    (fun os started H enc _ => lifted os started H enc)

/-- the statement -/
theorem proved : Rows.HistBeforeSaid := over
end Go.Proofs.Ytbapegdmpipllaa.histBefore
namespace Go.Proofs.Ytbapegdmpipllaa
theorem histBefore_holds : Rows.HistBeforeSaid := histBefore.proved
#print axioms histBefore_holds
end Go.Proofs.Ytbapegdmpipllaa
