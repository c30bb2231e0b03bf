/- For every slice of bytes and every uint64 which the law WireCase returns true and the slice reads as it did (P13.6): in whatever letters the names of lines are written the same is read. The library's tables are as the program's text lays them (the card ties them). -/
import Derived.Test.YtdameoejigpnhaaGreatDoorTDoor
import Derived.LaidMore
import Derived.Lay
import Derived.Test.YtdameoejigpnhaaGreatDoorWCase
import Derived.Test.YtdameoejigpnhaaGreatDoorSma
import Derived.WalkKit
import Derived.ShutString
import Derived.ChangeOld
import Derived.Below
namespace Go.Proofs.YtdameoejigpnhaaGreatDoor.wireCase
open Go.ChangeShapes Go.WideShapes Go.ChangeAt Go.RowKit
open Go.ChangeMaps (open_string shut_string)
set_option linter.unusedVariables false

theorem laidOut : laidOutB Tryz.prog = true := by kernel_rfl

/-- WHAT THE WALK IS TOLD OF A SLICE OF INTEGERS THAT CAME IN: it is nil; or it leads to a row of 'cap' cells, the numbers 'zs' (the first 'len' are its elements, the rest its spare room), each fitting its kind. -/
def IsRow (k : IntKind) (w : World) (a : Option Addr) (len cap : Nat) (zs : List Int) : Prop :=
  (a = none ∧ len = 0 ∧ cap = 0 ∧ zs = []) ∨
  ∃ x, a = some x ∧ len ≤ cap ∧ cap ≤ maxLen ∧ zs.length = cap ∧ (∀ i, i < zs.length → w.cell? (x.add i) = some (.int k (zs.getD i 0))) ∧ ∀ n ∈ zs, (Lit.int k n).wf = true


set_option maxRecDepth 100000 in
set_option maxHeartbeats 1000000 in
theorem walk (a0 : Option Addr) (len0 cap0 : Nat) (z0 : List Int) (a1 : Int) (w : World) (w0 : IsRow .u8 w a0 len0 cap0 z0) (w1 : (Lit.int .u64 a1).wf = true) (hL : laidMetH Tryz.prog Rows.wireCaseRow.laid w) (hsh : w.ShapedOpen Tryz.prog) :
    Calls Tryz.prog 7 #[.slice a0 len0 cap0, .int .u64 a1] w fun e w' => e = .returned (.bool true) ∧ Below w.heap.size w w' := by
  have HEV := Bx.mk (env_at (plainH hL (by kernel_rfl)) hsh 2 4 5 rfl rfl rfl)
  clear hL hsh
  have hrow : Bts w a0 len0 cap0 (z0.take len0) := Bts.of_row w0
  generalize z0.take len0 = l at hrow
  clear w0
  go_enter Tryz.func7, Tryz.ntmps7
  go_wp2_with fail
  refine (cut_any a0 len0 cap0 1500 l _ hrow (by decide)).mono ?_
  rintro e w' ⟨⟨len, rfl, hl⟩, rfl⟩
  have hlen : len ≤ 1500 := by have := hl.len_eq; rw [List.length_take] at this; omega
  generalize l.take 1500 = m at hl
  clear hrow
  go_wp2_with fail
  refine (copy_any a0 len cap0 m _ hl (by omega)).mono ?_
  rintro e w1 ⟨v, rfl, hown, hb1⟩
  have hml := hl.len_eq
  have HML := Bx.mk hml
  have HBM := Bx.mk hl.byt
  have HL0 := Bx.mk hl
  obtain ⟨av, cv, hv⟩ := own_sl hown
  have HCI : Bx (CsI m m 0 0 false) := ⟨CsI.new hl.byt⟩
  have HOWN : Bx (w1.ownsRow w.heap.size 5 1 v len (bv m)) := ⟨hown⟩
  have HB1 := Bx.mk hb1
  clear hown hl hb1 hml
  subst hv
  go_wp2_with fail
  go_loopw [6, 7, 8] (fun sl sn si wr => ∃ (k lines : Nat) (nm : Bool) (cc : List Int), k ≤ len ∧ si = .int .i64 k ∧ sl = .int .i64 lines ∧ lines ≤ k ∧ sn = .bool nm ∧ Bx (CsI m cc k lines nm) ∧ Bx (wr.ownsRow w.heap.size 5 1 (.slice av len cv) len (bv cc)) ∧ Bx (Below w.heap.size w wr)) (fun _ _ si _ => len - (intOf si).toNat)
  case atStart => exact ⟨0, 0, false, m, Nat.zero_le _, rfl, rfl, Nat.le_refl _, rfl, HCI, HOWN, HB1⟩
  case round =>
    clear HCI HOWN HB1
    obtain ⟨k, lines, nm, cc, hk, rfl, rfl, hlk, rfl, HC, HO, HB⟩ := hrel
    by_cases hlt : k < len
    · have hkI : (k : Int) < (len : Int) := by omega
      obtain ⟨gg, cap2, hgv, hgb, hgl⟩ := owns_form HO.out (by omega)
      cases hgv
      have hcl : ∀ j, j < len → wr.cell? ⟨gg, j, none⟩ = some (.int .u8 (cc.getD j 0)) := fun j hj => by
        rw [HO.out.cellAt j (by omega), bv_get, List.getElem?_eq_getElem (by rw [HC.out.len, HML.out]; exact hj), List.getD_eq_getElem?_getD, List.getElem?_eq_getElem (by rw [HC.out.len, HML.out]; exact hj)]; rfl
      have HCL := Bx.mk hcl
      have HFR : Bx (wr.frozen? ⟨gg, k, none⟩ = false) := ⟨by
        obtain ⟨_, h2⟩ := HO.out
        rcases h2 with ⟨h3, _⟩ | ⟨g3, cap3, cur, hv3, _, hh, _⟩
        · cases h3
        · cases hv3; exact frozen_of_row _ _ k _ _ hh⟩
      have hck := hcl k hlt
      have HKE : Bx (cc.getD k 0 = m.getD k 0) := ⟨HC.out.at k (Nat.le_refl _)⟩
      clear hcl
      obtain ⟨BK, HBK⟩ : ∃ BK : Bool, Bx (BK = true ↔ brk m k) := ⟨decide (2 ≤ k ∧ k + 1 < m.length ∧ m.getD (k - 2) 0 = 13 ∧ m.getD (k - 1) 0 = 10 ∧ m.getD k 0 = 13 ∧ m.getD (k + 1) 0 = 10), ⟨by unfold brk; exact decide_eq_true_iff⟩⟩
      have HBR : Bx (BK = true ↔ (2 ≤ k ∧ k + 1 < len ∧ cc.getD (k - 2) 0 = 13 ∧ cc.getD (k - 1) 0 = 10 ∧ cc.getD k 0 = 13 ∧ cc.getD (k + 1) 0 = 10)) := ⟨by rw [HBK.out, ← HC.out.brk, HML.out]⟩
      generalize hCk : cc.getD k 0 = C at *
      have HCk := Bx.mk hCk
      clear hCk
      go_upto_region 7 with fail
      go_cut [65] from 20 to 65 (fun c wx => c = .bool BK ∧ wx = wr)
      case first =>
        by_cases h2 : 2 ≤ k
        · have g2 : (k : Int) ≥ 2 := by omega
          by_cases h3 : k + 1 < len
          · have g3 : (k : Int) + 1 < (len : Int) := by omega
            have q2 := HCL.out (k - 2) (by omega)
            have q1 := HCL.out (k - 1) (by omega)
            have qp := HCL.out (k + 1) h3
            generalize cc.getD (k - 2) 0 = X2 at *
            generalize cc.getD (k - 1) 0 = X1 at *
            generalize cc.getD (k + 1) 0 = Xp at *
            by_cases e2 : X2 = 13
            · have f2 : (X2 == 13) = true := by simpa using e2
              by_cases e1 : X1 = 10
              · have f1 : (X1 == 10) = true := by simpa using e1
                by_cases e0 : C = 13
                · have f0 : (C == 13) = true := by simpa using e0
                  by_cases ep : Xp = 10
                  · have fp : (Xp == 10) = true := by simpa using ep
                    have HX : Bx (BK = true) := ⟨HBR.out.2 ⟨h2, h3, e2, e1, e0, ep⟩⟩
                    go_wp2_with fail
                    go_meet
                    exact ⟨by rw [HX.out], rfl⟩
                  · have fp : (Xp == 10) = false := by simpa using ep
                    have HX : Bx (BK = false) := ⟨Bool.eq_false_iff.2 (fun h => ep (HBR.out.1 h).2.2.2.2.2)⟩
                    go_wp2_with fail
                    go_meet
                    exact ⟨by rw [HX.out], rfl⟩
                · have f0 : (C == 13) = false := by simpa using e0
                  have HX : Bx (BK = false) := ⟨Bool.eq_false_iff.2 (fun h => e0 (HBR.out.1 h).2.2.2.2.1)⟩
                  go_wp2_with fail
                  go_meet
                  exact ⟨by rw [HX.out], rfl⟩
              · have f1 : (X1 == 10) = false := by simpa using e1
                have HX : Bx (BK = false) := ⟨Bool.eq_false_iff.2 (fun h => e1 (HBR.out.1 h).2.2.2.1)⟩
                go_wp2_with fail
                go_meet
                exact ⟨by rw [HX.out], rfl⟩
            · have f2 : (X2 == 13) = false := by simpa using e2
              have HX : Bx (BK = false) := ⟨Bool.eq_false_iff.2 (fun h => e2 (HBR.out.1 h).2.2.1)⟩
              go_wp2_with fail
              go_meet
              exact ⟨by rw [HX.out], rfl⟩
          · have g3 : ¬ (k : Int) + 1 < (len : Int) := by omega
            have HX : Bx (BK = false) := ⟨Bool.eq_false_iff.2 (fun h => h3 (HBR.out.1 h).2.1)⟩
            go_wp2_with fail
            go_meet
            exact ⟨by rw [HX.out], rfl⟩
        · have g2 : ¬ (k : Int) ≥ 2 := by omega
          have HX : Bx (BK = false) := ⟨Bool.eq_false_iff.2 (fun h => h2 (HBR.out.1 h).1)⟩
          go_wp2_with fail
          go_meet
          exact ⟨by rw [HX.out], rfl⟩
      case rest =>
        obtain ⟨rfl, hwx⟩ := hcut
        have hwy := hwx.symm
        subst hwy
        cases BK with
        | true =>
          have hcl9 : cc.length = len := by rw [HC.out.len, HML.out]
          have ho9 := HO.out
          rw [← hcl9] at ho9
          obtain ⟨ac, cap9, hcv9, hcb⟩ := Bts.of_owns ho9 HC.out.byt
          rw [hcl9] at hcv9 hcb
          clear ho9
          cases hcv9
          have HCB := Bx.mk hcb
          have HRUN : Bx (runQ wp0 ws0 m 0 = runQ wp0 ws0 cc 0) := ⟨case_run HC.out.cas⟩
          have HLB := Bx.mk (HL0.out.below HB.out)
          have HE1 := Bx.mk (HEV.out.up HB.out)
          clear hcb hcl9
          go_wp2_with fail
          refine (wwhole_any a0 len cap0 m _ HLB.out HE1.out).mono ?_
          rintro e w2 ⟨v2, rfl, hy2, ho2, hb2⟩
          obtain ⟨va, vc, rfl, hq2⟩ := wh_body hy2 ho2
          have HB2 := Bx.mk (bstep HB.out hb2)
          have HCB2 := Bx.mk (HCB.out.below hb2)
          have HQ2 := Bx.mk hq2
          have HY2 := Bx.mk hy2
          generalize hT : runQ wp0 ws0 m 0 = T at *
          have HTT := Bx.mk hT
          clear hT ho2 hb2 hq2 hy2 HCB
          obtain ⟨T1, T2, T3⟩ := T
          have hr3 : Below w2.heap.size w2 (w2.alloc (.cells #[.string T1.m, .string T1.t, .string T1.k, .slice va T1.b.length vc] 26)) := (Below.refl _ _).alloc (Nat.le_refl _) _
          have HR3 : Bx ((w2.alloc (.cells #[.string T1.m, .string T1.t, .string T1.k, .slice va T1.b.length vc] 26)).heap[w2.heap.size]? = some (.cells #[.string T1.m, .string T1.t, .string T1.k, .slice va T1.b.length vc] 26 (0, 0))) := ⟨heap_alloc_new w2 _⟩
          have HB3 := Bx.mk (bstep HB2.out hr3)
          have HCB3 := Bx.mk (HCB2.out.below hr3)
          have HQ3 := Bx.mk (HQ2.out.below hr3)
          clear hr3
          unfold reqV
          simp only
          go_wp2_with fail
          refine (wwhole_any _ len _ cc _ HCB3.out (HEV.out.up HB3.out)).mono ?_
          rintro e w4 ⟨v4, rfl, hy4, ho4, hb4⟩
          rw [← HRUN.out] at hy4 ho4 ⊢
          obtain ⟨vb, vd, rfl, hq4⟩ := wh_body hy4 ho4
          have hr5 : Below w4.heap.size w4 (w4.alloc (.cells #[.string T1.m, .string T1.t, .string T1.k, .slice vb T1.b.length vd] 26)) := (Below.refl _ _).alloc (Nat.le_refl _) _
          have hsz3 : w2.heap.size < (w2.alloc (.cells #[.string T1.m, .string T1.t, .string T1.k, .slice va T1.b.length vc] 26)).heap.size := by simp
          have HR5a : Bx ((w4.alloc (.cells #[.string T1.m, .string T1.t, .string T1.k, .slice vb T1.b.length vd] 26)).heap[w2.heap.size]? = some (.cells #[.string T1.m, .string T1.t, .string T1.k, .slice va T1.b.length vc] 26 (0, 0))) := ⟨by rw [hr5.block _ (Nat.lt_of_lt_of_le hsz3 hb4.size), hb4.block _ hsz3]; exact HR3.out⟩
          have HR5b : Bx ((w4.alloc (.cells #[.string T1.m, .string T1.t, .string T1.k, .slice vb T1.b.length vd] 26)).heap[w4.heap.size]? = some (.cells #[.string T1.m, .string T1.t, .string T1.k, .slice vb T1.b.length vd] 26 (0, 0))) := ⟨heap_alloc_new w4 _⟩
          have HQA := Bx.mk ((HQ3.out.below hb4).below hr5)
          have HQB := Bx.mk (hq4.below hr5)
          have HB5 := Bx.mk (bstep (bstep HB3.out hb4) hr5)
          obtain ⟨W5, hW5⟩ : ∃ W5, w4.alloc (.cells #[.string T1.m, .string T1.t, .string T1.k, .slice vb T1.b.length vd] 26) = W5 := ⟨_, rfl⟩
          rw [hW5] at HR5a HR5b HQA HQB HB5
          have HW5 := Bx.mk hW5
          have HSM : Bx (smW T1 T1 = true) := ⟨(smW_iff _ _).2 rfl⟩
          have k2 : ((T2 : Int) == (T2 : Int)) = true := by simp
          have k3 : (T3 == T3) = true := by simp
          obtain ⟨N2, hN2⟩ : ∃ N2 : Int, (T2 : Int) = N2 := ⟨_, rfl⟩
          clear hr5 hsz3 ho4 hb4 hq4 hy4 hW5 HCB3 HQ3 HR3 HCB2 HQ2
          unfold reqV
          simp only
          rw [hN2]
          rw [hN2] at k2
          clear hN2
          go_wp2_with (first
            | (rw [HW5.out]; have HA6 := HR5a; have HB6 := HR5b; clear HW5)
            | (refine wpList_load_row rfl 26 (.tmp 10) rfl w2.heap.size rfl 26 #[.string T1.m, .string T1.t, .string T1.k, .slice va T1.b.length vc] (0, 0) _ HA6.out Tryz.underlying26 rfl req_info ?_)
            | (refine wpList_load_row rfl 26 (.tmp 13) rfl w4.heap.size rfl 26 #[.string T1.m, .string T1.t, .string T1.k, .slice vb T1.b.length vd] (0, 0) _ HB6.out Tryz.underlying26 rfl req_info ?_))
          refine (rsame_any T1 T1 va vb _ _ vc vd W5 HQA.out HQB.out).mono ?_
          rintro e w6 ⟨rfl, hb6⟩
          rw [HSM.out]
          have HB6b := Bx.mk (bstep HB5.out hb6)
          clear hb6
          go_wp2_with fail
          refine (wlives_any _ (HEV.out.up HB6b.out)).mono ?_
          rintro e w7 ⟨rfl, hb7⟩
          have HFIN := Bx.mk (bstep HB6b.out hb7)
          clear hb7
          go_wp2
          go_ret
          exact ⟨rfl, HFIN.out⟩
        | false =>
          have HNB : Bx (¬ brk m k) := ⟨fun h => by have := HBK.out.2 h; cases this⟩
          clear HBK HBR
          have HKC : Bx (C = m.getD k 0) := ⟨HKE.out⟩
          have HLET : Bx (letA C = ((decide (97 ≤ C) && decide (C ≤ 122)) || (decide (65 ≤ C) && decide (C ≤ 90)))) := ⟨rfl⟩
          generalize hL : letA C = L at HLET
          have HL := Bx.mk hL
          clear hL
          go_upto_region 8 with fail
          go_cut [9] from 66 to 91 (fun c wx => c = .bool L ∧ wx = wr)
          case first =>
            by_cases h97 : 97 ≤ C
            · have g1 : C ≥ 97 := h97
              have g3 : C ≥ 65 := by omega
              by_cases h122 : C ≤ 122
              · have HX : Bx (L = true) := ⟨by rw [HLET.out]; simp [h97, h122]⟩
                go_wp2_with fail
                go_meet
                exact ⟨by rw [HX.out], rfl⟩
              · have g4 : ¬ C ≤ 90 := by omega
                have HX : Bx (L = false) := ⟨by rw [HLET.out]; simp; omega⟩
                go_wp2_with fail
                go_meet
                exact ⟨by rw [HX.out], rfl⟩
            · by_cases h65 : 65 ≤ C
              · have g3 : C ≥ 65 := h65
                by_cases h90 : C ≤ 90
                · have HX : Bx (L = true) := ⟨by rw [HLET.out]; simp [h65, h90]⟩
                  go_wp2_with fail
                  go_meet
                  exact ⟨by rw [HX.out], rfl⟩
                · have HX : Bx (L = false) := ⟨by rw [HLET.out]; simp; omega⟩
                  go_wp2_with fail
                  go_meet
                  exact ⟨by rw [HX.out], rfl⟩
              · have HX : Bx (L = false) := ⟨by rw [HLET.out]; simp; omega⟩
                go_wp2_with fail
                go_meet
                exact ⟨by rw [HX.out], rfl⟩
          case rest =>
            obtain ⟨rfl, hwx⟩ := hcut
            have hwy := hwx.symm
            subst hwy
            by_cases h10 : C = 10
            · have g10 : (C == 10) = true := by simpa using h10
              have HN : Bx (CsI m cc (k + 1) (lines + 1) true) := ⟨HC.out.lf HNB.out (by rw [← HKC.out]; exact h10)⟩
              clear h10 HLET HL
              go_wp2_with fail
              go_roundw
              case rel => exact ⟨k + 1, lines + 1, true, cc, by omega, by go_num, by go_num, by omega, rfl, HN, HO, HB⟩
              case measure => simp [intOf]; omega
            · have g10 : (C == 10) = false := by simpa using h10
              by_cases h58 : C = 58
              · have g58 : (C == 58) = true := by simpa using h58
                have HN : Bx (CsI m cc (k + 1) lines false) := ⟨HC.out.col HNB.out (by rw [← HKC.out]; exact h10) (by rw [← HKC.out]; exact h58)⟩
                clear h10 h58 HLET HL
                go_wp2_with fail
                go_roundw
                case rel => exact ⟨k + 1, lines, false, cc, by omega, by go_num, rfl, by omega, rfl, HN, HO, HB⟩
                case measure => simp [intOf]; omega
              · have g58 : (C == 58) = false := by simpa using h58
                have HN : Bx (CsI m cc (k + 1) lines nm) := ⟨HC.out.oth HNB.out (by rw [← HKC.out]; exact h10) (by rw [← HKC.out]; exact h58)⟩
                clear h10 h58 HLET
                cases nm with
                | false =>
                  go_wp2_with fail
                  go_roundw
                  case rel => exact ⟨k + 1, lines, false, cc, by omega, by go_num, rfl, by omega, rfl, HN, HO, HB⟩
                  case measure => simp [intOf]; omega
                | true =>
                  have glp : (lines : Int) > 0 := by
                    have h1 := HC.out.nf
                    have h2 := HC.out.ln
                    by_cases h0 : lines = 0
                    · rw [h2 h0] at h1; cases h1
                    · omega
                  cases L with
                  | false =>
                    go_wp2_with fail
                    go_roundw
                    case rel => exact ⟨k + 1, lines, true, cc, by omega, by go_num, rfl, by omega, rfl, HN, HO, HB⟩
                    case measure => simp [intOf]; omega
                  | true =>
                    have hxo := xor_let C HL.out
                    have HT : Bx (CsI m (cc.set k (swC C)) (k + 1) lines true) := ⟨by have h9 := HC.out.turn (by rw [HML.out]; exact hlt) HNB.out (by rw [← HKC.out]; exact HL.out); rw [← HKC.out] at h9; exact h9⟩
                    have HOT : Bx ((wr.setCell ⟨gg, k, none⟩ (.int .u8 (swC C))).ownsRow w.heap.size 5 1 (.slice (some ⟨gg, 0, none⟩) len cv) len (bv (cc.set k (swC C)))) := ⟨by have h9 := (HO.out.stored k (.int .u8 (swC C))).1; rwa [← bv_set] at h9⟩
                    have HBT : Bx (Below w.heap.size w (wr.setCell ⟨gg, k, none⟩ (.int .u8 (swC C)))) := ⟨below_setCells (vs := [.int .u8 (swC C)]) (o := k) HB.out gg hgb⟩
                    have hfr := HFR.out
                    generalize swC C = C2 at *
                    clear HL
                    go_wp2_with fail
                    · go_roundw
                      case rel => exact ⟨k + 1, lines, true, _, by omega, by go_num, rfl, by omega, rfl, HT, HOT, HBT⟩
                      case measure => simp [intOf]; omega
                    · go_roundw
                      case rel => exact ⟨k + 1, lines, true, cc, by omega, by go_num, rfl, by omega, rfl, HN, HO, HB⟩
                      case measure => simp [intOf]; omega
    · have hge : ¬ (k : Int) < (len : Int) := by omega
      have hcl9 : cc.length = len := by rw [HC.out.len, HML.out]
      have ho9 := HO.out
      rw [← hcl9] at ho9
      obtain ⟨ac, cap9, hcv9, hcb⟩ := Bts.of_owns ho9 HC.out.byt
      rw [hcl9] at hcv9 hcb
      clear ho9
      cases hcv9
      have HCB := Bx.mk hcb
      have HRUN : Bx (runQ wp0 ws0 m 0 = runQ wp0 ws0 cc 0) := ⟨case_run HC.out.cas⟩
      have HLB := Bx.mk (HL0.out.below HB.out)
      have HE1 := Bx.mk (HEV.out.up HB.out)
      clear hcb hcl9
      go_wp2_with fail
      refine (wwhole_any a0 len cap0 m _ HLB.out HE1.out).mono ?_
      rintro e w2 ⟨v2, rfl, hy2, ho2, hb2⟩
      obtain ⟨va, vc, rfl, hq2⟩ := wh_body hy2 ho2
      have HB2 := Bx.mk (bstep HB.out hb2)
      have HCB2 := Bx.mk (HCB.out.below hb2)
      have HQ2 := Bx.mk hq2
      have HY2 := Bx.mk hy2
      generalize hT : runQ wp0 ws0 m 0 = T at *
      have HTT := Bx.mk hT
      clear hT ho2 hb2 hq2 hy2 HCB
      obtain ⟨T1, T2, T3⟩ := T
      have hr3 : Below w2.heap.size w2 (w2.alloc (.cells #[.string T1.m, .string T1.t, .string T1.k, .slice va T1.b.length vc] 26)) := (Below.refl _ _).alloc (Nat.le_refl _) _
      have HR3 : Bx ((w2.alloc (.cells #[.string T1.m, .string T1.t, .string T1.k, .slice va T1.b.length vc] 26)).heap[w2.heap.size]? = some (.cells #[.string T1.m, .string T1.t, .string T1.k, .slice va T1.b.length vc] 26 (0, 0))) := ⟨heap_alloc_new w2 _⟩
      have HB3 := Bx.mk (bstep HB2.out hr3)
      have HCB3 := Bx.mk (HCB2.out.below hr3)
      have HQ3 := Bx.mk (HQ2.out.below hr3)
      clear hr3
      unfold reqV
      simp only
      go_wp2_with fail
      refine (wwhole_any _ len _ cc _ HCB3.out (HEV.out.up HB3.out)).mono ?_
      rintro e w4 ⟨v4, rfl, hy4, ho4, hb4⟩
      rw [← HRUN.out] at hy4 ho4 ⊢
      obtain ⟨vb, vd, rfl, hq4⟩ := wh_body hy4 ho4
      have hr5 : Below w4.heap.size w4 (w4.alloc (.cells #[.string T1.m, .string T1.t, .string T1.k, .slice vb T1.b.length vd] 26)) := (Below.refl _ _).alloc (Nat.le_refl _) _
      have hsz3 : w2.heap.size < (w2.alloc (.cells #[.string T1.m, .string T1.t, .string T1.k, .slice va T1.b.length vc] 26)).heap.size := by simp
      have HR5a : Bx ((w4.alloc (.cells #[.string T1.m, .string T1.t, .string T1.k, .slice vb T1.b.length vd] 26)).heap[w2.heap.size]? = some (.cells #[.string T1.m, .string T1.t, .string T1.k, .slice va T1.b.length vc] 26 (0, 0))) := ⟨by rw [hr5.block _ (Nat.lt_of_lt_of_le hsz3 hb4.size), hb4.block _ hsz3]; exact HR3.out⟩
      have HR5b : Bx ((w4.alloc (.cells #[.string T1.m, .string T1.t, .string T1.k, .slice vb T1.b.length vd] 26)).heap[w4.heap.size]? = some (.cells #[.string T1.m, .string T1.t, .string T1.k, .slice vb T1.b.length vd] 26 (0, 0))) := ⟨heap_alloc_new w4 _⟩
      have HQA := Bx.mk ((HQ3.out.below hb4).below hr5)
      have HQB := Bx.mk (hq4.below hr5)
      have HB5 := Bx.mk (bstep (bstep HB3.out hb4) hr5)
      obtain ⟨W5, hW5⟩ : ∃ W5, w4.alloc (.cells #[.string T1.m, .string T1.t, .string T1.k, .slice vb T1.b.length vd] 26) = W5 := ⟨_, rfl⟩
      rw [hW5] at HR5a HR5b HQA HQB HB5
      have HW5 := Bx.mk hW5
      have HSM : Bx (smW T1 T1 = true) := ⟨(smW_iff _ _).2 rfl⟩
      have k2 : ((T2 : Int) == (T2 : Int)) = true := by simp
      have k3 : (T3 == T3) = true := by simp
      obtain ⟨N2, hN2⟩ : ∃ N2 : Int, (T2 : Int) = N2 := ⟨_, rfl⟩
      clear hr5 hsz3 ho4 hb4 hq4 hy4 hW5 HCB3 HQ3 HR3 HCB2 HQ2
      unfold reqV
      simp only
      rw [hN2]
      rw [hN2] at k2
      clear hN2
      go_wp2_with (first
        | (rw [HW5.out]; have HA6 := HR5a; have HB6 := HR5b; clear HW5)
        | (refine wpList_load_row rfl 26 (.tmp 10) rfl w2.heap.size rfl 26 #[.string T1.m, .string T1.t, .string T1.k, .slice va T1.b.length vc] (0, 0) _ HA6.out Tryz.underlying26 rfl req_info ?_)
        | (refine wpList_load_row rfl 26 (.tmp 13) rfl w4.heap.size rfl 26 #[.string T1.m, .string T1.t, .string T1.k, .slice vb T1.b.length vd] (0, 0) _ HB6.out Tryz.underlying26 rfl req_info ?_))
      refine (rsame_any T1 T1 va vb _ _ vc vd W5 HQA.out HQB.out).mono ?_
      rintro e w6 ⟨rfl, hb6⟩
      rw [HSM.out]
      have HB6b := Bx.mk (bstep HB5.out hb6)
      clear hb6
      go_wp2_with fail
      refine (wlives_any _ (HEV.out.up HB6b.out)).mono ?_
      rintro e w7 ⟨rfl, hb7⟩
      have HFIN := Bx.mk (bstep HB6b.out hb7)
      clear hb7
      go_wp2
      go_ret
      exact ⟨rfl, HFIN.out⟩

set_option maxRecDepth 100000 in
/-- what the walk gives, for every argument and every world that holds the table -/
theorem contract (H : Type) (enc : TypeId × Value → H) (W : World) (base : Nat) (args : Array Value) (ds gs : List (DataW H)) (before : List MemPlace)
    (hval0 : ∀ (j : Nat) t v, Tryz.f7.params[j]? = some t → args[j]? = some v → Value.okWide Tryz.prog W .any base t v)
    (hW : DataW.Whole enc Tryz.prog Tryz.f7.params.toList Rows.wireCaseSpec.vars false W args.toList ds gs before) (hL : laidMetH Tryz.prog Rows.wireCaseRow.laid W) (hsh : W.ShapedOpen Tryz.prog) :
    Calls Tryz.prog 7 args W fun e W' => ∃ v, e = .returned v ∧ Rows.wireCaseSpec.post enc Tryz.prog Tryz.f7 false true false false W args v W' := by
  have hval : ∀ (j : Nat) t v, Tryz.f7.params[j]? = some t → args[j]? = some v → Value.okWide Tryz.prog W .any base t v := hval0
  have hW' := hW
  obtain ⟨p, q, hA0, hV, rfl, hfz, hnd⟩ := hW
  have hA : DataW.TrodAll enc Tryz.prog W 0 (fun _ => true) true Tryz.f7.params.toList args.toList ds p := hA0
  rw [Tryz.params7] at hA hval
  obtain ⟨v0, vs0, d0, ds0, p0, q0, hargs, rfl, rfl, h0, r0⟩ := trodAll_cons hA
  obtain ⟨v1, vs1, d1, ds1, p1, q1, rfl, rfl, rfl, h1, r1⟩ := trodAll_cons r0
  obtain ⟨rfl, rfl, rfl⟩ := trodAll_nil r1
  obtain rfl : args = #[v0, v1] := by cases args; simp_all
  obtain ⟨rfl, rfl⟩ := trodVars_none hV
  obtain ⟨a0, len0, cap0, rfl⟩ := okWide_slice Tryz.underlying22 (hval 0 22 v0 rfl rfl)
  have k0 := h0
  have lt0 : ∀ x ∈ p0, x.block < W.heap.size := by obtain ⟨m, hm⟩ := k0; exact DataW.trod_lt m _ _ _ hm
  obtain ⟨z0, w0⟩ : ∃ zs, IsRow .u8 W a0 len0 cap0 zs := by
    obtain ⟨fuel, hf⟩ := h0
    rcases open_ints Tryz.underlying22 Tryz.underlying5 (by kernel_rfl) hf with ⟨hcs, _⟩ | ⟨x, l, c, zs, hcs, _, hl, hm, hz, _, hcell, hwz⟩
    · simp [Value.cells] at hcs
      obtain ⟨rfl, rfl, rfl⟩ := hcs
      exact ⟨[], .inl ⟨rfl, rfl, rfl, rfl⟩⟩
    · simp [Value.cells] at hcs
      obtain ⟨rfl, rfl, rfl⟩ := hcs
      exact ⟨zs, .inr ⟨_, rfl, hl, hm, by simpa using hz, hcell, hwz⟩⟩
  obtain ⟨a1, rfl, rfl, rfl, w1⟩ := open_int Tryz.underlying57 (hval 1 57 v1 rfl rfl) h1
  clear hA0 hval0
  refine (walk a0 len0 cap0 z0 a1 W w0 w1 hL hsh).mono fun e W' ⟨he, bel⟩ => ?_
  subst he
  exact ⟨_, rfl, _, _, _, [], _, [], hW', trodAll_mk1 (shut_bool Tryz.underlying4 _), (trodAll_cons_mk (Below.trod laidOut (by kernel_rfl) (of_decide_eq_true (by kernel_rfl)) k0 bel lt0) (trodAll_cons_mk (shut_int Tryz.underlying57 w1) trodAll_mk0)), rfl, bel.frame _, fun h => by cases h⟩

set_option maxRecDepth 100000 in
theorem laid_met (os : Os) : laidMet Tryz.prog Rows.wireCaseRow.laid ((World.laidAll Tryz.prog os Rows.wireCaseRow.laid).forCall (fun _ _ => 0) ⟨#[], #[.slice none 0 0, .int .u64 0], []⟩).memory :=
  laidMet_laidAll _ (by kernel_rfl) (by kernel_rfl)
set_option maxRecDepth 100000 in
theorem reads (os : Os) {H : Type} (enc : TypeId × Value → H) : ∃ places, DataW.whole enc Tryz.prog ((World.laidAll Tryz.prog os Rows.wireCaseRow.laid).forCall (fun _ _ => 0) ⟨#[], #[.slice none 0 0, .int .u64 0], []⟩).memory Tryz.f7.params.toList Rows.wireCaseSpec.vars false (#[.slice none 0 0, .int .u64 0] : Array Value).toList 8 = some ([.nil, .lit (.int .u64 0)], [], places) :=
  ⟨[], by kernel_rfl⟩
set_option maxRecDepth 100000 in
theorem lifted (os : Os) (started : os.Started) (H : Type) (enc : TypeId × Value → H) (F : Stop.Interp) :
    ReturnsInHanded {} Tryz.checked os 7 .any ((OpenSpec.ofChange Rows.wireCaseSpec).preRow enc Tryz.prog Tryz.f7 Rows.wireCaseRow.domain false Rows.wireCaseRow.laid) (((OpenSpec.ofChange Rows.wireCaseSpec).at F).post enc Tryz.prog Tryz.f7 false true false false) := by
  obtain ⟨places, hx⟩ := reads os enc
  refine returnsInHanded_of_row (C := Tryz.checked) (s := OpenSpec.ofChange Rows.wireCaseSpec) own started (by kernel_rfl) Tryz.func7
    (witness_row_zip (enc := enc) (C := Tryz.checked) false (World.laidAll Tryz.prog os Rows.wireCaseRow.laid) #[.slice none 0 0, .int .u64 0] (World.laidAll_os _ _ _) (World.shaped_of_ZipB (by kernel_rfl) (by kernel_rfl)) (by kernel_rfl)
      (OpenSpec.preRow_of_cond 8 hx (by kernel_rfl) (fun k hk => by cases hk) (by kernel_rfl) (laid_met os))) ?_
  intro W base args ds gs before hval hW _ _ _ hL hsh _
  exact contract H enc W base args ds gs before hval hW hL hsh
theorem said : Rows.WireCaseSaid :=
  OpenClaim.holds_of_cond 7 Tryz.f7 rfl rfl rfl rfl rfl rfl rfl ⟨rfl, rfl, rfl, rfl, rfl⟩ rfl rfl rfl rfl rfl (by kernel_rfl) Tryz.func7 (by kernel_rfl)
    (of_decide_eq_true (by kernel_rfl)) (by unfold Func.isWrapper; first | (rw [if_pos (by decide +kernel)]; kernel_rfl) | (rw [if_neg (by decide +kernel)]; exact ⟨rfl, rfl⟩))
    (fun os started H enc _ F => by rw [OpenClaim.pre_eq_preRow]; exact lifted os started H enc F)
theorem plain (f : FuncId) (fn : Func) (hf : Tryz.pinned.checked.prog.funcNamed "inquest/inquestlaw13.WireCase" = some f) (hfn : Tryz.pinned.checked.prog.funcs[f]? = some fn) :
    true = Tryz.pinned.checked.prog.looks [] ∧ ∀ (j : Nat) t, fn.params[j]? = some t → Tryz.pinned.checked.prog.wantsStandIn t = false := by
  obtain rfl : f = 7 := Option.some.inj ((show Tryz.prog.funcNamed "inquest/inquestlaw13.WireCase" = some 7 by kernel_rfl).symm.trans hf) |>.symm
  obtain rfl : fn = Tryz.f7 := (Option.some.inj (Tryz.func7.symm.trans hfn)).symm
  refine ⟨by kernel_rfl, fun j t ht => ?_⟩
  rw [Tryz.params7] at ht
  have hall : ([22, 57].all fun u => !Tryz.prog.wantsStandIn u) = true := by kernel_rfl
  have hm : t ∈ [22, 57] := by simpa using Array.mem_of_getElem? ht
  exact (show Tryz.prog.wantsStandIn t = false by simpa using List.all_eq_true.1 hall t hm)
/-- the tied card -/
theorem card : Rows.WireCaseCardSaid :=
  Claim7.holds_tied_plain_at .later [] _ _ _ _ said (fun _ h => by cases h) (by kernel_rfl) (fun _ h => by cases h) wireCase_row_tie rfl ⟨rfl, rfl⟩ (by kernel_rfl) rfl plain (by kernel_rfl)
end Go.Proofs.YtdameoejigpnhaaGreatDoor.wireCase
namespace Go.Proofs.YtdameoejigpnhaaGreatDoor
theorem wireCase_holds : Rows.WireCaseCardSaid := wireCase.card
#print axioms wireCase_holds
end Go.Proofs.YtdameoejigpnhaaGreatDoor
