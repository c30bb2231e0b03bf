/- StoreKept: behind a crash at any step, whatever is kept, a store holds what the commits made that answered OK, and then perhaps, wholly, the one that was under way (P11.6). No condition. -/
import Derived.Test.YtjnjokbdoendkaaGreatRows
import Derived.Test.YtjnjokbdoendkaaGreatSlx
import Derived.Test.YtjnjokbdoendkaaGreatSma
import Derived.WalkKit
import Derived.ProofKit
import Derived.OpenShut
import Derived.ShutString
import Derived.ChangeOld
import Derived.Below
namespace Go.Proofs.YtjnjokbdoendkaaGreat.storeKept
open Go.ChangeShapes Go.WideShapes Go.ChangeAt Go.RowKit
open Go.ChangeMaps (open_string shut_string)
set_option linter.unusedVariables false

theorem own : ownKnob Tryz.prog.godebug = none := by kernel_rfl
theorem laidOut : laidOutB Tryz.prog = true := by kernel_rfl

theorem do_zero : (Tryz.prog.info? 42).map (fun i => i.zero.map (·.cells.size)) = some (some 4) := by kernel_rfl
theorem do_info : (Tryz.prog.info? 42).map (·.size) = some 4 := by kernel_rfl
theorem dov_none (w : World) : DoV w ⟨2, 0, [], []⟩ none 0 0 none 0 0 := ⟨by unfold I64; decide, by unfold I64; decide, ⟨RT.nil _ _, fun c hc => by cases hc⟩, bls_nil _ _⟩

set_option maxRecDepth 100000 in
set_option maxHeartbeats 4000000 in
theorem walk (sectors : Int) (quota : Int) (a2 : Option Addr) (len2 cap2 : Nat) (l : List DoM) (w : World) (hsectors : I64 sectors) (hquota : I64 quota) (hl : Dos w a2 len2 cap2 l) :
    Calls Tryz.prog 5 #[.int .i64 sectors, .int .i64 quota, .slice a2 len2 cap2] w fun e w' => e = .returned (.bool true) ∧ Below w.heap.size w w' := by
  have HDL := Bx.mk hl
  obtain ⟨q, HQ⟩ : ∃ q, Bx (q = leastV quota 0 1099511627776) := ⟨_, ⟨rfl⟩⟩
  have HQ0 : Bx (¬ q < 0) := ⟨by have := (least_bd quota 0 1099511627776 (by decide)).1; rw [HQ.out]; omega⟩
  obtain ⟨ns, HNS⟩ : ∃ n : Nat, Bx (leastV sectors 1 200 = (n : Int) ∧ 1 ≤ n ∧ n ≤ 200) := by
    have h1 := least_bd sectors 1 200 (by decide)
    exact ⟨(leastV sectors 1 200).toNat, ⟨by omega, by omega, by omega⟩⟩
  clear hl
  go_enter Tryz.func5, Tryz.ntmps5
  go_wp2_with fail
  refine (least_any quota 0 1099511627776 _).mono ?_
  rintro e w' ⟨rfl, rfl⟩
  rw [← HQ.out]
  go_wp2_with fail
  refine (least_any sectors 1 200 _).mono ?_
  rintro e w' ⟨rfl, rfl⟩
  rw [HNS.out.1]
  go_wp2_with fail
  refine (new_any ns _ HNS.out.2.1 (by have := HNS.out.2.2; omega)).mono ?_
  rintro e w1 ⟨gd, rfl, hD, hb1⟩
  obtain ⟨own, hown⟩ : ∃ own : Nat → Prop, own = fun k => w.heap.size ≤ k ∧ k < w1.heap.size := ⟨_, rfl⟩
  rw [← hown] at hD
  have HO : Bx (∀ k, own k → w.heap.size ≤ k) := ⟨fun k h => by rw [hown] at h; exact h.1⟩
  clear hown
  go_wp2_with fail
  refine (sopen_rest gd own (dnew ns) q _ [] (by have := HQ0.out; omega) hD (rest_new ns) (fun b hb => by simp at hb)).mono ?_
  rintro e w2 ⟨gs, gl, oD, oL, oS, rfl, hT, hdid, hlo, hso⟩
  have HDT : Bx (DT w w2 (fun _ => False) gd gl gs (dnew ns) (lgs []) q []) := ⟨⟨⟨oD, oL, oS, hT, fun k hk => ⟨by
    have hs1 := hb1.size
    rcases hk with h3 | h3 | h3
    · rcases hdid.new k h3 with h4 | h4
      · exact HO.out k h4
      · omega
    · have := hlo k h3; omega
    · have := hso k h3; omega, fun h => h⟩⟩, hb1.trans (hdid.kept.low HO.out hb1.size), fun k hk => hk.elim⟩⟩
  clear hT hdid hlo hso hb1 hD HO
  go_wp2_with fail
  refine (fewd_any a2 len2 cap2 l _ (HDL.out.below HDT.out.low)).mono ?_
  rintro e w3 ⟨m, hmn, hm25, rfl, hb3⟩
  have HDT3 := Bx.mk (HDT.out.step hb3)
  clear hb3 HDT
  go_wp2_with fail
  have HKS0 := Bx.mk (KS.start (n := ns) HDT3.out)
  go_loopw [9, 11, 12, 13, 14] (fun vs vS vM vd i wr => ∃ (k : Nat) (X : Nat → Prop) (gl gs : Nat) (s : DS) (L : LS) (M : List Pr) (T : List (List Int)) (b : List Int) (doubt : Bool) (aS : Option Addr) (nS cS : Nat) (aM : Option Addr) (nM cM : Nat) (Ks Km : List Pr), k ≤ m + 1 ∧ i = .int .i64 k ∧ vs = .pointer (some ⟨gs, 0, none⟩) ∧ vS = .slice aS nS cS ∧ vM = .slice aM nM cM ∧ vd = .bool doubt ∧ Bx (KS w wr X gd gl gs ns q s L M T b doubt aS nS cS aM nM cM Ks Km k)) (fun _ _ _ _ i _ => m + 1 - (intOf i).toNat)
  case atStart => exact ⟨0, _, gl, gs, _, _, _, _, _, false, none, 0, 0, none, 0, 0, _, _, by omega, rfl, rfl, rfl, rfl, rfl, HKS0⟩
  case round =>
    clear HDT3 HKS0
    obtain ⟨k, X, gl, gs, s, L, M, T, b, doubt, aS, nS, cS, aM, nM, cM, Ks, Km, hk, rfl, rfl, rfl, rfl, rfl, HKS⟩ := hrel
    by_cases hle : k ≤ m
    · have hkI : (k : Int) ≤ (m : Int) := by omega
      have HLOW := Bx.mk HKS.out.dt.low
      have HSL := Bx.mk HKS.out.dt.low.size
      have HST : Bx (∀ wA wB gk, Below wr.heap.size wr wA → gk = wr.heap.size → Kept (fun k => k = gk) wA wB → Below wr.heap.size wr wB) := ⟨fun wA wB gk h1 h2 h3 => h1.trans (h3.low (B := wr.heap.size) (fun k hk => by have hk : k = gk := hk; omega) h1.size)⟩
      go_upto_if 46 with (first
        | (refine wpList_alloc_at rfl 42 4 rfl do_zero ?_; intro gk wA cs hcs hrA hbA hgk)
        | (refine wpList_store_var rfl 42 (.tmp 15) (.tmp 42) rfl gk cs hrA #[.int .i64 2, .int .i64 0, .slice none 0 0, .slice none 0 0] rfl rfl (by rw [hcs.out]; rfl) do_info (by simp [Value.oneCell']) ?_; intro wB hrB hkB; have hbB := HST.out wA wB gk hbA.out hgk.out hkB.out; clear hrA))
      have HGK : Bx (wr.heap.size ≤ gk) := ⟨Nat.le_of_eq hgk.out.symm⟩
      go_cut [] from 36 to 131 (fun wx => ∃ (X2 : Nat → Prop) (D : DoM) (d2 : Option Addr) (l2 c2 : Nat) (d3 : Option Addr) (l3 c3 : Nat), Bx (X2 gk) ∧ Bx (wx.heap[gk]? = some (rowD D d2 l2 c2 d3 l3 c3)) ∧ Bx (DoV w D d2 l2 c2 d3 l3 c3) ∧ Bx (KS w wx X2 gd gl gs ns q s L M T b doubt aS nS cS aM nM cM Ks Km k))
      case first =>
        by_cases hlt : k < m
        · have hltI : (k : Int) < (m : Int) := by omega
          obtain ⟨b5, off5, d2, l2, c2, d3, l3, c3, rfl, x0w, x1w, x2w, x3w, hV, hbl⟩ := HDL.out.at (Below.refl w.heap.size w) k (by omega)
          generalize l.getD k doZ = D at x0w x1w hV
          have HV := Bx.mk hV
          have hlB := bstep HLOW.out hbB
          have x0 := (hlB.cell (p := ⟨b5, off5 + k * 4, none⟩) hbl).trans x0w
          have x1 := (hlB.cell (p := ⟨b5, off5 + k * 4 + 1, none⟩) hbl).trans x1w
          have x2 := (hlB.cell (p := ⟨b5, off5 + k * 4 + 2, none⟩) hbl).trans x2w
          have x3 := (hlB.cell (p := ⟨b5, off5 + k * 4 + 3, none⟩) hbl).trans x3w
          clear x0w x1w x2w x3w hV hlB
          go_wp2_with (refine wpList_store_var rfl 42 (.tmp 15) (.tmp 50) rfl gk _ hrB #[.int .i64 D.kind, .int .i64 D.n, .slice d2 l2 c2, .slice d3 l3 c3] rfl rfl rfl do_info (by simp [Value.oneCell']) ?_; intro wC hrC hkC; clear x0 x1 x2 x3 hrB)
          have hbC := HST.out wB wC gk hbB hgk.out hkC.out
          have hgC : gk < wC.heap.size := (Array.getElem?_eq_some_iff.1 hrC).1
          go_meet
          case rel => exact ⟨_, D, d2, l2, c2, d3, l3, c3, ⟨.inr ⟨HGK.out, hgC⟩⟩, ⟨hrC⟩, HV, ⟨HKS.out.more hbC⟩⟩
        · have hltI : ¬ (k : Int) < (m : Int) := by omega
          have hgB : gk < wB.heap.size := (Array.getElem?_eq_some_iff.1 hrB).1
          go_wp2_with fail
          go_meet
          case rel => exact ⟨_, ⟨2, 0, [], []⟩, none, 0, 0, none, 0, 0, ⟨.inr ⟨HGK.out, hgB⟩⟩, ⟨hrB⟩, ⟨dov_none w⟩, ⟨HKS.out.more hbB⟩⟩
      case rest =>
        clear HKS HLOW HSL HST hbA hbB hkB hcs hrB hgk HGK
        obtain ⟨X2, D, d2, l2, c2, d3, l3, c3, HXK, HRW, HDV, HK2⟩ := hcut
        obtain ⟨y0, y1, y2, y3⟩ := rd_cells HRW.out
        have HBD := Bx.mk (HK2.out.bd (by omega) HNS.out.2.2)
        have HV0 := Bx.mk (HDV.out.below HK2.out.dt.low)
        go_upto_block 2 with fail
        go_cut [9, 11, 12, 13] from 36 to 131 (fun vs vS vM vd wx => ∃ (X : Nat → Prop) (gl gs : Nat) (s : DS) (L : LS) (M : List Pr) (T : List (List Int)) (b : List Int) (doubt : Bool) (aS : Option Addr) (nS cS : Nat) (aM : Option Addr) (nM cM : Nat) (Ks Km : List Pr), vs = .pointer (some ⟨gs, 0, none⟩) ∧ vS = .slice aS nS cS ∧ vM = .slice aM nM cM ∧ vd = .bool doubt ∧ Bx (KS w wx X gd gl gs ns q s L M T b doubt aS nS cS aM nM cM Ks Km (k + 1)))
        case first =>
          by_cases h0 : D.kind = 0
          · have g0 : (D.kind == 0) = true := by rw [h0]; rfl
            clear h0
            go_wp2_with fail
            refine (few11_any d2 l2 c2 _ _ _ HV0.out.l.1 HV0.out.l.2).mono ?_
            rintro e w2 ⟨v2, rfl, hcl2, hb2⟩
            obtain ⟨a4, c4, rfl, hct⟩ := hcl2.rt chE_len
            have HK3 := Bx.mk (HK2.out.more hb2)
            have HCT := Bx.mk (hct.mono (B2 := fun k => X2 k ∨ (wc.heap.size ≤ k ∧ k < w2.heap.size)) (fun _ _ h => .inr h))
            have HFK : Bx (∀ c ∈ fewL D.l, c.key.size ≤ 9223372036854775807 ∧ c.val.length ≤ 4200) := ⟨fun c hc => ⟨by have := (fewL_ok _ c hc).1; omega, (fewL_ok _ c hc).2⟩⟩
            have HFB : Bx (∀ c ∈ fewL D.l, Byt c.val) := ⟨hct.byts⟩
            have hl20 := fewL_length D.l
            clear hcl2 hct hb2 y0 y1 y2 y3 HK2 HRW HXK HDV HV0
            generalize (fun k => X2 k ∨ (wc.heap.size ≤ k ∧ k < w2.heap.size)) = X3 at HK3 HCT
            generalize fewL D.l = F at HCT HFK HFB hl20
            obtain ⟨nf, HNF⟩ : ∃ x, Bx (F.length = x) := ⟨_, ⟨rfl⟩⟩
            rw [HNF.out] at HCT hl20 ⊢
            have hns5 := HBD.out.2.2.1
            go_wp2_with fail
            refine (dt_commit w _ X3 gd gl gs s L q M a4 nf c4 F HK3.out.dt HCT.out (fun c hc => (HFK.out c hc).1) HBD.out.2.2.2.2.2.1 HBD.out.1).mono ?_
            rintro e w3 ⟨rfl, hD3, hx3⟩
            have HPS3 := Bx.mk (HK3.out.ps.xkp hx3)
            have HCT3 := Bx.mk (HCT.out.xk hx3)
            rcases HK3.out.ki.commit q F HFB.out with ⟨e1, e2, e3, e4, e5⟩ | ⟨e1, e2, e3, e4, e5, e6⟩ | ⟨e1, e2, e4, e5⟩
            · have HFIN : Bx (∀ w4 a' n' c', PT (fun k => X3 k ∨ w3.heap.size ≤ k) w4 a' n' c' (doneL Ks F) → Below w3.heap.size w3 w4 → KS w w4 (fun k => X3 k ∨ (w3.heap.size ≤ k ∧ k < w4.heap.size)) gd gl gs ns q (coS s L q M F) (coL s L q M F) (coM s L q M F) (T ++ [encL F]) b false a' n' c' aM nM cM (doneL Ks F) Km (k + 1)) := ⟨fun w4 a' n' c' hp hb => HK3.out.ok hD3 e4 e5 hx3 hp hb (encL_byt e3 HFB.out)⟩
              rw [e1]
              subst e2
              clear e1 e3 e4 e5 hD3 hx3 HK3 HCT
              go_wp2_with fail
              refine (rdone_any X3 X3 aS a4 nS cS nf c4 Ks F _ HPS3.out HCT3.out (fun c hc => by have := (HFK.out c hc).2; omega) (by omega)).mono ?_
              rintro e w4 ⟨a', n', c', rfl, hp4, hb4⟩
              have HK4 := Bx.mk (HFIN.out w4 a' n' c' hp4 hb4)
              clear hp4 hb4 HFIN HPS3 HCT3
              go_wp2_with fail
              go_meet
              case rel => exact ⟨_, gl, gs, _, _, _, _, _, false, a', n', c', aM, nM, cM, _, _, rfl, rfl, rfl, rfl, HK4⟩
            · have HFIN : Bx (∀ w4 a' n' c', PT (fun k => X3 k ∨ w3.heap.size ≤ k) w4 a' n' c' (doneL Ks F) → Below w3.heap.size w3 w4 → KS w w4 (fun k => X3 k ∨ (w3.heap.size ≤ k ∧ k < w4.heap.size)) gd gl gs ns q (coS s L q M F) (coL s L q M F) (coM s L q M F) T (encL F) true aS nS cS a' n' c' Ks (doneL Ks F) (k + 1)) := ⟨fun w4 a' n' c' hp hb => HK3.out.power e2 hD3 e4 e6 hx3 hp hb (encL_byt e3 HFB.out)⟩
              rw [e1]
              subst e2
              clear e1 e3 e4 e5 e6 hD3 hx3 HK3 HCT
              go_wp2_with fail
              refine (rdone_any X3 X3 aS a4 nS cS nf c4 Ks F _ HPS3.out HCT3.out (fun c hc => by have := (HFK.out c hc).2; omega) (by omega)).mono ?_
              rintro e w4 ⟨a', n', c', rfl, hp4, hb4⟩
              have HK4 := Bx.mk (HFIN.out w4 a' n' c' hp4 hb4)
              clear hp4 hb4 HFIN HPS3 HCT3
              go_wp2_with fail
              go_meet
              case rel => exact ⟨_, gl, gs, _, _, _, _, _, true, aS, nS, cS, a', n', c', _, _, rfl, rfl, rfl, rfl, HK4⟩
            · have HK4 := Bx.mk (HK3.out.no hD3 e4 hx3)
              have HNE := Bx.mk e2
              have g1 : (coE s L q M F == 0) = false := by simpa using e1
              clear e1 e2 e4 e5 hD3 hx3 HK3 HCT HPS3 HCT3
              generalize coE s L q M F = E at g1 HNE ⊢
              by_cases hE : E = 14
              · have hd := HNE.out hE
                subst hd
                subst hE
                clear HNE
                go_wp2_with fail
                go_meet
                case rel => exact ⟨_, gl, gs, _, _, _, _, _, true, aS, nS, cS, aM, nM, cM, _, _, rfl, rfl, rfl, rfl, HK4⟩
              · have g2 : (E == 14) = false := by simpa using hE
                clear hE HNE
                go_wp2_with fail
                go_meet
                case rel => exact ⟨_, gl, gs, _, _, _, _, _, doubt, aS, nS, cS, aM, nM, cM, _, _, rfl, rfl, rfl, rfl, HK4⟩
          · have g0 : (D.kind == 0) = false := by simpa using h0
            have HLB : Bx (leastV D.n 0 1000 ≤ 9223372036854775807) := ⟨by have := least_bd D.n 0 1000 (by decide); omega⟩
            by_cases h1 : D.kind = 1
            · have g1 : (D.kind == 1) = true := by rw [h1]; rfl
              clear h0 h1
              go_wp2_with fail
              refine (least_any D.n 0 1000 _).mono ?_
              rintro e w' ⟨rfl, rfl⟩
              clear y0 y1 y2 y3
              go_wp2_with fail
              refine (dt_arm w _ X2 gd gl gs s L q M (leastV D.n 0 1000) HK2.out.dt HLB.out).mono ?_
              rintro e w3 ⟨rfl, hD3, hx3⟩
              have HK4 := Bx.mk (HK2.out.no hD3 (HK2.out.ki.arm (leastV D.n 0 1000)) hx3)
              clear hD3 hx3 HK2
              go_wp2_with fail
              go_meet
              case rel => exact ⟨_, gl, gs, _, _, _, _, _, doubt, aS, nS, cS, aM, nM, cM, _, _, rfl, rfl, rfl, rfl, HK4⟩
            · have g1 : (D.kind == 1) = false := by simpa using h1
              clear h0 h1
              go_wp2_with fail
              refine (keep_any d3 l3 c3 D.keep _ HV0.out.keep).mono ?_
              rintro e w' ⟨⟨m3, rfl, hm3, hK3⟩, rfl⟩
              have HK3 := Bx.mk hK3
              clear y0 y1 y2 y3 hK3
              go_wp2_with fail
              refine (dd_crash w _ X2 gd s d3 m3 c3 (D.keep.take 400) HK2.out.dt.dd HK3.out (bls_far HDV.out.keep hm3) (by have := HBD.out.2.2.2.2.2.1; omega)).mono ?_
              rintro e w5 ⟨rfl, hD5, hx5⟩
              obtain ⟨T2, hLT, hTD⟩ := HK2.out.ki.left (D.keep.take 400)
              have HTD := Bx.mk hTD
              have HLT := Bx.mk hLT
              have HD5 := Bx.mk hD5
              have HX5 := Bx.mk hx5
              obtain ⟨z0, z1, z2, z3⟩ := rd_cells (hx5.row HXK.out HRW.out)
              clear hLT hTD hD5 hx5 HK3 HV0
              generalize s.cr (D.keep.take 400) = s5 at HD5 HLT
              go_wp2_with fail
              refine (least_any D.n 0 1000 _).mono ?_
              rintro e w' ⟨rfl, rfl⟩
              clear z0 z1 z2 z3
              go_wp2_with fail
              refine (dd_arm w _ X2 gd s5 (leastV D.n 0 1000) HD5.out HLB.out).mono ?_
              rintro e w6 ⟨rfl, hD6, hx6⟩
              have HD6 := Bx.mk hD6
              have HX6 := Bx.mk (HX5.out.trans hx6)
              clear hD6 hx6 HD5 HX5
              go_wp2_with fail
              refine (dd_sopen_both w _ X2 gd ns s5 q (leastV D.n 0 1000) T b doubt T2 HD6.out (Int.not_lt.2 HQ0.out) HLT.out HTD.out).mono ?_
              rintro e w7 ⟨v7, rfl, s7, hD7, hx7, hO7, hL7⟩
              have HD7 := Bx.mk hD7
              have HX7 := Bx.mk (HX6.out.trans hx7)
              have HL7 := Bx.mk (hL7 (D.keep.take 400))
              have HO7 := Bx.mk hO7
              obtain ⟨z0, z1, z2, z3⟩ := rd_cells (HX7.out.row HXK.out HRW.out)
              have HV7 := Bx.mk (HDV.out.below HD7.out.low)
              clear hD7 hx7 hL7 hO7 HD6 HX6 HLT
              go_wp2_with fail
              refine (keep_any d3 l3 c3 D.keep _ HV7.out.keep).mono ?_
              rintro e w' ⟨⟨m4, rfl, hm4, hK4⟩, rfl⟩
              have HK4 := Bx.mk hK4
              clear z0 z1 z2 z3 hK4 HV7
              go_wp2_with fail
              refine (dd_crash w _ X2 gd s7 d3 m4 c3 (D.keep.take 400) HD7.out HK4.out (bls_far HDV.out.keep hm4) (by have := HO7.out; have := HNS.out.2.2; omega)).mono ?_
              rintro e w8 ⟨rfl, hD8, hx8⟩
              have HD8 := Bx.mk hD8
              have HX8 := Bx.mk (HX7.out.trans hx8)
              clear hD8 hx8 HD7 HX7 HK4
              generalize s7.cr (D.keep.take 400) = s8 at HD8 HL7
              go_wp2_with fail
              refine (dd_sopen_left w _ X2 gd ns s8 q T b doubt T2 HD8.out (Int.not_lt.2 HQ0.out) HL7.out HTD.out).mono ?_
              rintro e w9 ⟨gs2, gl2, s9, rfl, hD9, hx9, hr9, hn9⟩
              obtain ⟨K2, hK2, hR2, hPS9, hPM9, hT2l, hT2b, hgo⟩ := HK2.out.opened HL7.out.2.2.2.2.2.2 hD9 (HX8.out.trans hx9) hr9 hn9 HTD.out
              have HD9 := Bx.mk hD9
              have HR2 := Bx.mk hR2
              have HPS9 := Bx.mk hPS9
              have HPM9 := Bx.mk hPM9
              have HGO := Bx.mk hgo
              have HML : Bx ((mkM T2).length ≤ 1000000) := ⟨by
                have h2 : (mkM T2).length ≤ 0 + 16 * T2.length := mkM_length T2 [] hT2b
                omega⟩
              clear hD9 hx9 hr9 hn9 hR2 hPS9 hPM9 hgo hT2l hT2b HD8 HX8 HL7 HK2 HRW HXK HDV HBD HO7
              cases doubt with
              | false =>
                have hKe : K2 = Ks := by
                  rcases hK2 with h | ⟨h, _⟩
                  · exact h
                  · cases h
                have HK9 := Bx.mk (HGO.out w9 aS nS cS (Below.refl _ _) (by rw [hKe]; exact HPS9.out))
                clear hKe hK2 HGO HPS9 HPM9 HR2 HD9
                go_wp2_with fail
                go_meet
                case rel => exact ⟨X2, gl2, gs2, s9, _, _, T2, b, false, aS, nS, cS, aM, nM, cM, K2, Km, rfl, rfl, rfl, rfl, HK9⟩
              | true =>
                go_wp2_with fail
                refine (dt_all w _ X2 gd gl2 gs2 s9 (lgs T2) q (mkM T2) K2 HD9.out HR2.out HML.out).mono ?_
                rintro e wa ⟨aA, nA, cA, rfl, hpA, hbA⟩
                have HPA := Bx.mk hpA
                have HPMA := Bx.mk (HPM9.out.below hbA)
                have HBA := Bx.mk hbA
                clear hpA hbA
                go_wp2_with fail
                refine (psame_any _ _ _ _ _ _ _ _ _ _ _ HPA.out HPMA.out).mono ?_
                rintro e wb ⟨rfl, hbB⟩
                have HBB := Bx.mk (bstep HBA.out hbB)
                clear hbB HPA HPMA HBA HD9 HR2
                by_cases hKK : K2 = Km
                · rw [decide_eq_true hKK]
                  have HK9 := Bx.mk (HGO.out wb aM nM cM HBB.out (by rw [hKK]; exact HPM9.out.below HBB.out))
                  clear hKK hK2 HGO HPS9 HPM9 HBB
                  go_wp2_with fail
                  go_meet
                  case rel => exact ⟨X2, gl2, gs2, s9, _, _, T2, b, false, aM, nM, cM, aM, nM, cM, K2, Km, rfl, rfl, rfl, rfl, HK9⟩
                · rw [decide_eq_false hKK]
                  have hKe : K2 = Ks := by
                    rcases hK2 with h | ⟨_, h⟩
                    · exact h
                    · exact absurd h hKK
                  have HK9 := Bx.mk (HGO.out wb aS nS cS HBB.out (by rw [hKe]; exact HPS9.out.below HBB.out))
                  clear hKK hKe hK2 HGO HPS9 HPM9 HBB
                  go_wp2_with fail
                  go_meet
                  case rel => exact ⟨X2, gl2, gs2, s9, _, _, T2, b, false, aS, nS, cS, aM, nM, cM, K2, Km, rfl, rfl, rfl, rfl, HK9⟩
        case rest =>
          clear HK2 HRW HXK HDV HV0 HBD y0 y1 y2 y3
          obtain ⟨X, gl, gs, s, L, M, T, b, doubt, aS, nS, cS, aM, nM, cM, Ks, Km, rfl, rfl, rfl, rfl, HKS⟩ := hcut
          cases doubt with
          | true =>
            go_wp2_with fail
            go_roundw
            case rel => exact ⟨k + 1, X, gl, gs, s, L, M, T, b, true, aS, nS, cS, aM, nM, cM, Ks, Km, by omega, by go_num, rfl, rfl, rfl, rfl, HKS⟩
            case measure => simp [intOf]; omega
          | false =>
            have HBD := Bx.mk (HKS.out.bd (by omega) HNS.out.2.2)
            go_wp2_with fail
            refine (dt_all w _ X gd gl gs s L q M Ks HKS.out.dt HBD.out.2.2.2.2.1 HBD.out.2.1).mono ?_
            rintro e wa ⟨aA, nA, cA, rfl, hpA, hbA⟩
            have HPA := Bx.mk hpA
            have HKA := Bx.mk (HKS.out.step hbA)
            clear hpA hbA HKS
            go_wp2_with fail
            refine (psame_any _ _ _ _ _ _ _ _ _ _ _ HPA.out HKA.out.ps).mono ?_
            rintro e wb ⟨rfl, hbB⟩
            rw [decide_eq_true rfl]
            have HKB := Bx.mk (HKA.out.step hbB)
            clear hbB HKA HPA
            go_wp2_with fail
            refine (dt_used w _ X gd gl gs s L q M HKB.out.dt).mono ?_
            rintro e w' ⟨rfl, rfl⟩
            go_wp2_with fail
            refine (rbytes11_any _ _ _ _ Ks _ HKB.out.ps HBD.out.2.2.2.2.2.2).mono ?_
            rintro e w8 ⟨rfl, qc, hwc⟩
            rw [HBD.out.2.2.2.1]
            have HKC := Bx.mk (HKB.out.step (w1 := w8) (by rw [hwc]; exact below_drewN (Below.refl _ _) qc))
            clear hwc HKB HBD
            go_wp2_with fail
            go_roundw
            case rel => exact ⟨k + 1, X, gl, gs, s, L, M, T, b, false, aS, nS, cS, aM, nM, cM, Ks, Km, by omega, by go_num, rfl, rfl, rfl, rfl, HKC⟩
            case measure => simp [intOf]; omega
    · have hkI : ¬ (k : Int) ≤ (m : Int) := by omega
      have HF0 := Bx.mk HKS.out.dt.low
      clear HKS
      go_wp2_with fail
      refine (lives_any _).mono ?_
      rintro e w9 ⟨rfl, hb9⟩
      have HF := Bx.mk (bstep HF0.out hb9)
      clear hb9
      go_wp2_with fail
      go_ret
      exact ⟨rfl, HF.out⟩

set_option maxRecDepth 100000 in
theorem lifted (os : Os) (started : os.Started) (H : Type) (enc : TypeId × Value → H) :
    ReturnsInHanded {} Tryz.checked os 5 .any (Rows.storeKeptSpec.pre6 enc Tryz.prog Tryz.f5 Rows.storeKeptRow.domain false) (Rows.storeKeptSpec.post enc Tryz.prog Tryz.f5 false true false false) := by
  refine returnsInHanded_of_change (C := Tryz.checked) own started (by kernel_rfl) Tryz.func5
    (ChangeSpec.witness6 (enc := enc) (C := Tryz.checked) false ⟨#[], #[.int .i64 0, .int .i64 0, .slice none 0 0], []⟩ 8 (by kernel_rfl) (by kernel_rfl) (by kernel_rfl) (by kernel_rfl)) ?_
  intro W base args ds gs before hval0 hW hcnd _
  have hval : ∀ (j : Nat) t v, Tryz.f5.params[j]? = some t → args[j]? = some v → Value.okWide Tryz.prog W .any base t v := hval0
  have hW' := hW
  obtain ⟨p, q, hA0, hV, rfl, hfz, hnd⟩ := hW
  have hA : DataW.TrodAll enc Tryz.prog W 0 (fun _ => true) true Tryz.f5.params.toList args.toList ds p := hA0
  rw [Tryz.params5] at hA hval
  obtain ⟨v0, vs0, d0, ds0, p0, q0, hargs, rfl, rfl, h0, r0⟩ := trodAll_cons hA
  obtain ⟨v1, vs1, d1, ds1, p1, q1, rfl, rfl, rfl, h1, r1⟩ := trodAll_cons r0
  obtain ⟨v2, vs2, d2, ds2, p2, q2, rfl, rfl, rfl, h2, r2⟩ := trodAll_cons r1
  obtain ⟨rfl, rfl, rfl⟩ := trodAll_nil r2
  obtain rfl : args = #[v0, v1, v2] := by cases args; simp_all
  obtain ⟨rfl, rfl⟩ := trodVars_none hV
  obtain ⟨a2, len2, cap2, rfl⟩ := okWide_slice Tryz.underlying22 (hval 2 22 v2 rfl rfl)
  have k0 := h0
  have lt0 : ∀ x ∈ p0, x.block < W.heap.size := by obtain ⟨m, hm⟩ := k0; exact DataW.trod_lt m _ _ _ hm
  have k1 := h1
  have lt1 : ∀ x ∈ p1, x.block < W.heap.size := by obtain ⟨m, hm⟩ := k1; exact DataW.trod_lt m _ _ _ hm
  have k2 := h2
  have lt2 : ∀ x ∈ p2, x.block < W.heap.size := by obtain ⟨m, hm⟩ := k2; exact DataW.trod_lt m _ _ _ hm
  obtain ⟨sectors, rfl, hsectors⟩ := open_i64 (hval 0 3 v0 rfl rfl) h0
  obtain ⟨quota, rfl, hquota⟩ := open_i64 (hval 1 3 v1 rfl rfl) h1
  obtain ⟨l, hl⟩ := open_dos h2
  clear hA0 hval0
  refine (walk sectors quota a2 len2 cap2 l W hsectors hquota hl).mono fun e W' ⟨he, bel⟩ => ?_
  subst he
  exact ⟨_, rfl, _, _, _, [], _, [], hW', trodAll_mk1 (shut_bool Tryz.underlying4 _), (trodAll_cons_mk (Below.trod laidOut (by kernel_rfl) (of_decide_eq_true (by kernel_rfl)) k0 bel lt0) (trodAll_cons_mk (Below.trod laidOut (by kernel_rfl) (of_decide_eq_true (by kernel_rfl)) k1 bel lt1) (trodAll_cons_mk (Below.trod laidOut (by kernel_rfl) (of_decide_eq_true (by kernel_rfl)) k2 bel lt2) trodAll_mk0))), rfl, bel.frame _, fun h => by cases h⟩

theorem over : Rows.storeKeptRow.holds Tryz.pinned (OpenSpec.ofChange Rows.storeKeptSpec) :=
  OpenClaim.holds_of_wide 5 Tryz.f5 rfl rfl rfl rfl rfl rfl rfl ⟨rfl, rfl, rfl, rfl, rfl⟩ rfl rfl rfl rfl rfl (by kernel_rfl) Tryz.func5 (by kernel_rfl)
    (of_decide_eq_true (by kernel_rfl)) (by unfold Func.isWrapper; first | (rw [if_pos (by decide +kernel)]; kernel_rfl) | (rw [if_neg (by decide +kernel)]; exact ⟨rfl, rfl⟩))
    (fun os started H enc _ => lifted os started H enc)

/-- the statement -/
theorem proved : Rows.StoreKeptSaid := over
end Go.Proofs.YtjnjokbdoendkaaGreat.storeKept
namespace Go.Proofs.YtjnjokbdoendkaaGreat
theorem storeKept_holds : Rows.StoreKeptSaid := storeKept.proved
#print axioms storeKept_holds
end Go.Proofs.YtjnjokbdoendkaaGreat
