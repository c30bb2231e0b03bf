/- StoreTexts: which text changes have, and which changes bytes say. -/
import Derived.Test.YtjnjokbdoendkaaRows
import Derived.Test.YtjnjokbdoendkaaSAlike
import Derived.Test.YtjnjokbdoendkaaSLives
import Derived.Test.YtjnjokbdoendkaaSRDec
import Derived.Test.YtjnjokbdoendkaaSma
import Derived.WalkKit
import Derived.ProofKit
import Derived.OpenShut
import Derived.ShutString
import Derived.ChangeOld
import Derived.Below
namespace Go.Proofs.Ytjnjokbdoendkaa.storeTexts
open Go.ChangeShapes Go.WideShapes Go.ChangeAt Go.RowKit
open Go.ChangeMaps (open_string shut_string)
set_option linter.unusedVariables false

theorem own : ownKnob Try.prog.godebug = none := by kernel_rfl
theorem laidOut : laidOutB Try.prog = true := by kernel_rfl

theorem enc_byt {l : List Chg} (h : chkL l = 0) (hv : ∀ c ∈ l, Byt c.val) : Byt (encL l) := by
  have hok := chkL_ok h
  unfold encL
  refine Byt.append (varL_byt _ (by omega) (by have := hok.n2; omega)) (flatC_byt fun c hc => ⟨hv c hc, by have := (hok.c c hc).v; omega, by have := (hok.c c hc).k2; omega⟩)
theorem cl_byt {w : World} {own : Nat → Prop} {v : Value} {l : List Chg} (h : CL w own v l) : ∀ c ∈ l, Byt c.val := fun c hc => by
  obtain ⟨Z, hZ, _, hx⟩ := h.row
  rw [← hZ] at hc
  obtain ⟨z, hz, rfl⟩ := List.mem_map.1 hc
  exact (hx z hz).1.byt
theorem encR_byt {l : List Chg} (hv : ∀ c ∈ l, Byt c.val) : Byt (encR l) := by
  unfold encR
  split
  · rename_i h; exact enc_byt h hv
  · exact Byt.nil
def dcE (l : List Int) : Int := match decL l with | some _ => 0 | none => 4
def dcV (l : List Int) : List Chg := match decL l with | some L => L | none => []
theorem dcp_one {l : List Int} {w w' : World} {e : Ending} (h : DCP l w e w') : Below w.heap.size w w' ∧ ∃ v, e = .returned (.tuple #[v, .int .i64 (dcE l)]) ∧ CL w' (fun k => w.heap.size ≤ k ∧ k < w'.heap.size) v (dcV l) := by
  refine ⟨h.1, ?_⟩
  rcases h.2 with ⟨h1, h2⟩ | ⟨L, v, h1, h2, h3⟩
  · exact ⟨_, by rw [dcE, h1]; exact h2, by rw [dcV, h1]; exact RL.nil _ _⟩
  · exact ⟨v, by rw [dcE, h1]; exact h2, by rw [dcV, h1]; exact h3⟩
/-- a list whose values may be written: where they lie, whatever is in them -/
structure WrL (N : Nat) (wr : World) (b : Nat) (Z : List (It Chg)) : Prop where
  row : ∀ i (h : i < Z.length), wr.cell? ⟨b, i * 3 + 2, none⟩ = some (.slice Z[i].a Z[i].n Z[i].c)
  ge : N ≤ b
  bd : ∀ z ∈ Z, z.n ≤ 9223372036854775807
  val : ∀ z ∈ Z, 0 < z.n → ∃ vb off, z.a = some ⟨vb, off, none⟩ ∧ N ≤ vb ∧ vb ≠ b ∧ ∀ j, j < z.n → (∃ x, wr.cell? ⟨vb, off + j, none⟩ = some (.int .u8 x)) ∧ wr.frozen? ⟨vb, off + j, none⟩ = false
theorem WrL.set {N : Nat} {wr : World} {b : Nat} {Z : List (It Chg)} (h : WrL N wr b Z) {vb o : Nat} (hne : vb ≠ b) (hc : ∃ x, wr.cell? ⟨vb, o, none⟩ = some (.int .u8 x)) (y : Int) : WrL N (wr.setCell ⟨vb, o, none⟩ (.int .u8 y)) b Z := by
  refine ⟨fun i hi => ?_, h.ge, h.bd, fun z hz hp => ?_⟩
  · rw [World.cell?_of_block (a := ⟨b, i * 3 + 2, none⟩) (heap_setCell_other wr ⟨vb, o, none⟩ b _ (fun e => hne e.symm))]
    exact h.row i hi
  · obtain ⟨vb2, off2, e1, e2, e3, e4⟩ := h.val z hz hp
    refine ⟨vb2, off2, e1, e2, e3, fun j hj => ⟨?_, by rw [World.frozen?_setCell]; exact (e4 j hj).2⟩⟩
    by_cases hq : (⟨vb2, off2 + j, none⟩ : Addr) = ⟨vb, o, none⟩
    · obtain ⟨x, hx⟩ := hc
      rw [hq]
      exact ⟨y, World.cell?_setCell_same' _ _ _ (by rw [hx]; rfl)⟩
    · obtain ⟨x, hx⟩ := (e4 j hj).1
      exact ⟨x, by rw [World.cell?_setCell_other _ _ _ _ (fun e => hq e.symm)]; exact hx⟩
theorem wrl_of {w w' : World} {N : Nat} {own : Nat → Prop} {g n cap : Nat} {L : List Chg} (h : CL w own (.slice (some ⟨g, 0, none⟩) n cap) L) (ho : ∀ k, own k → N ≤ k) (hb : Below w.heap.size w w') : ∃ Z : List (It Chg), Z.length = L.length ∧ WrL N w' g Z := by
  obtain ⟨Z, hZ, hown, hz⟩ := (h.below hb).row
  have hZl : Z.length = L.length := by rw [← hZ, List.length_map]
  have hn : n = L.length := by
    rcases hown.2 with ⟨h1, _⟩ | ⟨g', cap', cur, hv, _⟩
    · cases h1
    · cases hv; rfl
  subst hn
  refine ⟨Z, hZl, fun i hi => ?_, ho g (h.ob g rfl), fun z hz2 => by have h1 := Nat.le_trans (hz z hz2).1.le_cap (hz z hz2).1.cap_le; unfold maxLen at h1; omega, fun z hz2 hp => ?_⟩
  · rw [hown.cellAt (i * 3 + 2) (by omega), flat_get chE_len Z i 2 hi (by decide)]; rfl
  · obtain ⟨h1, h2⟩ := hz z hz2
    obtain ⟨vb, off, e, _, hc⟩ := h1.spot hp
    obtain ⟨h3, h4, h5⟩ := h2 hp _ e
    exact ⟨vb, off, e, ho _ h3, fun e2 => h4 (by rw [← e2]; rfl), fun j hj => ⟨⟨_, hc j hj⟩, h5 _⟩⟩

set_option maxRecDepth 100000 in
set_option maxHeartbeats 1000000 in
theorem walk (a0 : Option Addr) (len0 cap0 : Nat) (l : List Chg) (a1 : Option Addr) (len1 cap1 : Nat) (b : List Int) (w : World) (hl : Chs w a0 len0 cap0 l) (hb : Bts w a1 len1 cap1 b) :
    Calls Try.prog 3 #[.slice a0 len0 cap0, .slice a1 len1 cap1] w fun e w' => e = .returned (.bool true) ∧ Below w.heap.size w w' := by
  have HL := Bx.mk hl
  have HB := Bx.mk hb
  have hbm := Nat.le_trans hb.le_cap hb.cap_le
  unfold maxLen at hbm
  clear hl hb
  go_enter Try.func3, Try.ntmps3
  go_wp2_with fail
  refine (few11_any a0 len0 cap0 _ l _ HL.out.1 HL.out.2).mono ?_
  rintro e w1 ⟨v1, rfl, hCL1, hb1⟩
  obtain ⟨a2, c2, rfl, hCT1⟩ := hCL1.rt chE_len
  have HFB := Bx.mk (cl_byt hCL1)
  have HCT1 := Bx.mk hCT1
  have HW1 := Bx.mk hb1
  have HB1 := Bx.mk (HB.out.below hb1)
  clear hCL1 hCT1 hb1
  go_wp2_with fail
  refine (cut_any a1 len1 cap1 9000 b _ HB1.out (by decide)).mono ?_
  rintro e w2 ⟨⟨n1, rfl, hb2⟩, rfl⟩
  obtain ⟨bb, HBB⟩ : ∃ bb, Bx (bb = b.take 9000) := ⟨_, ⟨rfl⟩⟩
  rw [← HBB.out] at hb2
  have hn1 : n1 ≤ 9000 := by rw [← hb2.len_eq, HBB.out, List.length_take]; omega
  have HB2 := Bx.mk hb2
  obtain ⟨F, HF⟩ : ∃ F, Bx (F = fewL l) := ⟨_, ⟨rfl⟩⟩
  have HFF : Bx (fewL F = F) := ⟨by rw [HF.out]; exact fewL_few l⟩
  rw [← HF.out] at HFB HCT1 ⊢
  have HFK : Bx (∀ c ∈ F, c.key.size ≤ 9223372036854775807) := ⟨fun c hc => by rw [HF.out] at hc; have := (fewL_ok l c hc).1; omega⟩
  have hF20 : F.length ≤ 20 := by rw [HF.out]; exact fewL_length l
  clear hb2 HB1 HB HBB HF HL
  go_wp2_with fail
  refine (few11_any a2 F.length c2 _ F _ HCT1.out HFK.out).mono ?_
  rintro e w3 ⟨v3, rfl, hCL3, hb3⟩
  rw [HFF.out] at hCL3
  obtain ⟨a3, c3, rfl, hCT3⟩ := hCL3.rt chE_len
  have HCT3 := Bx.mk hCT3
  have HW3 := Bx.mk (bstep HW1.out hb3)
  have HB3 := Bx.mk (HB2.out.below hb3)
  have HCL := Bx.mk (HCT1.out.below hb3)
  clear hCL3 hCT3 hb3
  go_wp2_with fail
  refine (copy_any a1 n1 cap1 bb _ HB3.out (by omega)).mono ?_
  rintro e w4 ⟨v4, rfl, hown4, hb4⟩
  obtain ⟨a4, c4, rfl, hm4⟩ := Bts.of_owns hown4 HB3.out.byt
  have HM4 := Bx.mk hm4
  have HW4 := Bx.mk (bstep HW3.out hb4)
  have HB4 := Bx.mk (HB3.out.below hb4)
  have HCL4 := Bx.mk (HCL.out.below hb4)
  have HCM4 := Bx.mk (HCT3.out.below hb4)
  clear hown4 hb4 hm4 HCL HCT3 HB3
  go_wp2_with fail
  refine (encode_any _ a3 F.length c3 F _ HCM4.out HFK.out).mono ?_
  rintro e w5 ⟨v5, rfl, hown5, hb5⟩
  obtain ⟨a5, c5, rfl, hm5⟩ := Bts.of_owns hown5 (encR_byt HFB.out)
  have HM5 := Bx.mk hm5
  have HW5 := Bx.mk (bstep HW4.out hb5)
  have HMO5 := Bx.mk (HM4.out.below hb5)
  have HB5 := Bx.mk (HB4.out.below hb5)
  have HCL5 := Bx.mk (HCL4.out.below hb5)
  have HCM5 := Bx.mk (HCM4.out.below hb5)
  clear hown5 hb5 hm5 HCL4 HCM4 HB4 HM4
  go_wp2_with fail
  refine (refencode_any _ a2 F.length c2 F _ HCL5.out HFK.out).mono ?_
  rintro e w6 ⟨v6, rfl, hown6, hb6⟩
  obtain ⟨a6, c6, rfl, hm6⟩ := Bts.of_owns hown6 (encR_byt HFB.out)
  have HM6 := Bx.mk hm6
  have HM56 := Bx.mk (HM5.out.below hb6)
  have HW6 := Bx.mk (bstep HW5.out hb6)
  have HMO6 := Bx.mk (HMO5.out.below hb6)
  have HB6 := Bx.mk (HB5.out.below hb6)
  have HCL6 := Bx.mk (HCL5.out.below hb6)
  have HCM6 := Bx.mk (HCM5.out.below hb6)
  clear hown6 hb6 hm6 HCL5 HCM5 HB5 HMO5 HM5
  go_wp2_with fail
  refine (decode_any a4 n1 c4 bb _ HMO6.out (by omega)).mono ?_
  intro e w7 hD7
  obtain ⟨hb7, v7, rfl, hCL7⟩ := dcp_one hD7
  have HM57 := Bx.mk (HM56.out.below hb7)
  have HM67 := Bx.mk (HM6.out.below hb7)
  have HB7 := Bx.mk (HB6.out.below hb7)
  obtain ⟨a7, c7, rfl, hCT7⟩ := hCL7.rt chE_len
  have HCT7 := Bx.mk hCT7
  have HCLW := Bx.mk hCL7
  have HL7 : Bx (Below w6.heap.size w6 w7) := ⟨hb7⟩
  clear hD7 hCL7 hCT7 hb7 HM56 HM6
  go_wp2_with fail
  refine (refdecode_any a1 n1 cap1 bb _ HB7.out (by omega)).mono ?_
  intro e w8 hD8
  obtain ⟨hb8, v8, rfl, hCL8⟩ := dcp_one hD8
  obtain ⟨a8, c8, rfl, hCT8⟩ := hCL8.rt chE_len
  have HCT8 := Bx.mk hCT8
  have HCT78 := Bx.mk (HCT7.out.below hb8)
  have HM58 := Bx.mk (HM57.out.below hb8)
  have HM68 := Bx.mk (HM67.out.below hb8)
  have HL8 : Bx (Below w6.heap.size w6 w8) := ⟨bstep HL7.out hb8⟩
  have HL78 : Bx (Below w7.heap.size w7 w8) := ⟨hb8⟩
  obtain ⟨DE, HDE⟩ : ∃ DE, Bx (dcE bb = DE) := ⟨_, ⟨rfl⟩⟩
  obtain ⟨D, HDV⟩ : ∃ D, Bx (dcV bb = D) := ⟨_, ⟨rfl⟩⟩
  obtain ⟨CK, HCK⟩ : ∃ CK, Bx (chkL F = CK) := ⟨_, ⟨rfl⟩⟩
  rw [HDE.out, HDV.out, HCK.out]
  rw [HDV.out] at HCT7 HCT78 HCT8 HCLW
  clear hD8 hCL8 hCT8 hb8 HM57 HM67 HB7
  go_wp2_with fail
  refine (same_yes a5 a6 _ _ c5 c6 (encR F) _ HM58.out HM68.out).mono ?_
  rintro e w9 ⟨rfl, q9, hq9⟩
  have HL9 : Bx (Below w8.heap.size w8 w9) := ⟨by rw [hq9]; exact below_drewN (Below.refl _ _) q9⟩
  clear hq9
  go_wp2_with fail
  refine (alike_yes _ _ a7 a8 _ _ c7 c8 D _ (HCT78.out.below HL9.out) (HCT8.out.below HL9.out)).mono ?_
  rintro e wA ⟨rfl, hbA⟩
  have HLA : Bx (Below w8.heap.size w8 wA) := ⟨bstep HL9.out hbA⟩
  clear hbA
  have HL6A : Bx (Below w6.heap.size w6 wA) := ⟨bstep HL8.out HLA.out⟩
  go_wp2_with fail
  refine (check_any _ a3 F.length c3 F _ (HCM6.out.below HL6A.out) HFK.out).mono ?_
  rintro e wB ⟨rfl, hbB⟩
  have HL6B : Bx (Below w6.heap.size w6 wB) := ⟨bstep HL6A.out hbB⟩
  have HLB : Bx (Below w8.heap.size w8 wB) := ⟨bstep HLA.out hbB⟩
  clear hbB
  go_wp2_with fail
  refine (refcheck_any _ a2 F.length c2 F _ (HCL6.out.below HL6B.out) HFK.out).mono ?_
  rintro e wC ⟨rfl, hbC⟩
  have HL6C : Bx (Below w6.heap.size w6 wC) := ⟨bstep HL6B.out hbC⟩
  have HL7C : Bx (Below w7.heap.size w7 wC) := ⟨bstep HL78.out (bstep HLB.out hbC)⟩
  rw [HCK.out]
  have hd7 : D.length ≤ 16 ∨ D = [] := by
    rw [← HDV.out]
    unfold dcV
    cases e : decL bb with
    | none => exact .inr rfl
    | some L => exact .inl (chkL_ok (dec_back HB2.out.byt e).2.1).n2
  have hd16 : D.length ≤ 16 := by
    rcases hd7 with h | h
    · exact h
    · rw [h]; exact Nat.zero_le _
  clear hd7 hbC HL6B HLB HLA HL6A HL9 HL8 HL7 HCT7 HCT78 HCT8 HM58 HM68 HL78
  by_cases hD0 : D.length = 0
  · obtain ⟨dl, HDL⟩ : ∃ dl, Bx (D.length = dl) := ⟨_, ⟨rfl⟩⟩
    have hdl : dl = 0 := by rw [← HDL.out]; exact hD0
    rw [HDL.out]
    subst hdl
    have hbr := HL6C.out
    clear hD0 HCLW
    go_wp2_with fail
    go_loopw [15] (fun i wr => i = .int .i64 0 ∧ Below w6.heap.size w6 wr) (fun _ _ => 0)
    case atStart => exact ⟨rfl, hbr⟩
    case round =>
      obtain ⟨rfl, hbr⟩ := hrel
      go_wp2_with fail
      -- nothing of what was handed in has changed
      refine (alike_yes _ _ a3 a2 _ _ c3 c2 F _ (HCM6.out.below hbr) (HCL6.out.below hbr)).mono ?_
      rintro e wE ⟨rfl, hbE⟩
      have hbE2 := bstep hbr hbE
      have HWE := Bx.mk (bstep HW6.out hbE2)
      have HME := Bx.mk (HMO6.out.below hbE2)
      have HBE := Bx.mk (HB6.out.below hbE2)
      clear hbE hbE2
      go_wp2_with fail
      refine (same_yes a4 a1 n1 n1 c4 cap1 bb _ HME.out HBE.out).mono ?_
      rintro e wF ⟨rfl, qF, hqF⟩
      have HWF : Bx (Below w.heap.size w wF) := ⟨by rw [hqF]; exact below_drewN HWE.out qF⟩
      clear hqF
      go_wp2_with fail
      refine (lives_any _).mono ?_
      rintro e wG ⟨rfl, hbG⟩
      have hfin := bstep HWF.out hbG
      go_wp2_with fail
      go_ret
      exact ⟨rfl, hfin⟩
  · obtain ⟨g, hg⟩ : ∃ g, a7 = some ⟨g, 0, none⟩ := by
      obtain ⟨Z, _, hown, _⟩ := HCLW.out.row
      rcases hown.2 with ⟨_, h⟩ | ⟨g, cap, cur, hv, _⟩
      · omega
      · cases hv; exact ⟨g, rfl⟩
    subst hg
    obtain ⟨Z, hZl, hWr⟩ := wrl_of HCLW.out (fun k hk => hk.1) HL7C.out
    obtain ⟨n, HNL⟩ : ∃ n, Bx (D.length = n) := ⟨_, ⟨rfl⟩⟩
    rw [HNL.out] at hZl hd16 hD0 ⊢
    have HZL : Bx (Z.length = n) := ⟨hZl⟩
    have hst : WrL w6.heap.size wC g Z ∧ Below w6.heap.size w6 wC := ⟨hWr, HL6C.out⟩
    clear hWr hZl HCLW HL6C HL7C HNL
    go_wp2_with fail
    go_loopw [15] (fun i wr => ∃ k : Nat, k ≤ n ∧ i = .int .i64 k ∧ Bx (WrL w6.heap.size wr g Z ∧ Below w6.heap.size w6 wr)) (fun i _ => n - (intOf i).toNat)
    case atStart => exact ⟨0, Nat.zero_le _, rfl, ⟨hst⟩⟩
    case round =>
      clear hst
      obtain ⟨k, hk, rfl, HWR⟩ := hrel
      by_cases hlt : k < n
      · have hkI : (k : Int) < (n : Int) := by omega
        have hkZ : k < Z.length := by rw [HZL.out]; exact hlt
        obtain ⟨z, HZ⟩ : ∃ z, Bx (Z[k] = z) := ⟨_, ⟨rfl⟩⟩
        have HZM : Bx (z ∈ Z) := ⟨by rw [← HZ.out]; exact List.getElem_mem hkZ⟩
        obtain ⟨za, zn, zc, HZA⟩ : ∃ za zn zc, Bx (z.a = za ∧ z.n = zn ∧ z.c = zc) := ⟨_, _, _, ⟨rfl, rfl, rfl⟩⟩
        have hzn : zn ≤ 9223372036854775807 := by rw [← HZA.out.2.1]; exact HWR.out.1.bd z HZM.out
        go_wp2_with fail
        go_loopw [16] (fun i wr => ∃ j : Nat, i = .int .i64 j ∧ Bx (WrL w6.heap.size wr g Z ∧ Below w6.heap.size w6 wr)) (fun i _ => zn - (intOf i).toNat)
        case atStart => exact ⟨0, rfl, HWR⟩
        case round =>
          obtain ⟨j, rfl, HW2⟩ := hrel
          have hrow := HW2.out.1.row k hkZ
          rw [HZ.out, HZA.out.1, HZA.out.2.1, HZA.out.2.2] at hrow
          by_cases hj : j < zn
          · have hjI : (j : Int) < (zn : Int) := by omega
            obtain ⟨vb, off, e1, e2, e3, e4⟩ := HW2.out.1.val z HZM.out (by rw [HZA.out.2.1]; omega)
            obtain rfl : za = some ⟨vb, off, none⟩ := by rw [← HZA.out.1]; exact e1
            obtain ⟨⟨x, hx⟩, hf⟩ := e4 j (by rw [HZA.out.2.1]; exact hj)
            have HW3 : Bx (WrL w6.heap.size (wr.setCell ⟨vb, off + j, none⟩ (.int .u8 7)) g Z ∧ Below w6.heap.size w6 (wr.setCell ⟨vb, off + j, none⟩ (.int .u8 7))) := ⟨HW2.out.1.set e3 ⟨x, hx⟩ 7, HW2.out.2.setCell (p := ⟨vb, off + j, none⟩) e2 _⟩
            clear HW2 e1 e2 e3 e4 HWR
            go_wp2_with fail
            go_roundw
            case rel => exact ⟨j + 1, by go_num, HW3⟩
            case measure => simp [intOf]; omega
          · have hjI : ¬ (j : Int) < (zn : Int) := by omega
            clear HWR
            go_wp2_with fail
            go_roundw
            case rel => exact ⟨k + 1, by omega, by go_num, HW2⟩
            case measure => simp [intOf]; omega
      · have hkI : ¬ (k : Int) < (n : Int) := by omega
        have hbr := HWR.out.2
        clear HWR
        go_wp2_with fail
        -- nothing of what was handed in has changed
        refine (alike_yes _ _ a3 a2 _ _ c3 c2 F _ (HCM6.out.below hbr) (HCL6.out.below hbr)).mono ?_
        rintro e wE ⟨rfl, hbE⟩
        have hbE2 := bstep hbr hbE
        have HWE := Bx.mk (bstep HW6.out hbE2)
        have HME := Bx.mk (HMO6.out.below hbE2)
        have HBE := Bx.mk (HB6.out.below hbE2)
        clear hbE hbE2
        go_wp2_with fail
        refine (same_yes a4 a1 n1 n1 c4 cap1 bb _ HME.out HBE.out).mono ?_
        rintro e wF ⟨rfl, qF, hqF⟩
        have HWF : Bx (Below w.heap.size w wF) := ⟨by rw [hqF]; exact below_drewN HWE.out qF⟩
        clear hqF
        go_wp2_with fail
        refine (lives_any _).mono ?_
        rintro e wG ⟨rfl, hbG⟩
        have hfin := bstep HWF.out hbG
        go_wp2_with fail
        go_ret
        exact ⟨rfl, hfin⟩

set_option maxRecDepth 100000 in
theorem lifted (os : Os) (started : os.Started) (H : Type) (enc : TypeId × Value → H) :
    ReturnsInHanded {} Try.checked os 3 .any (Rows.storeTextsSpec.pre6 enc Try.prog Try.f3 Rows.storeTextsRow.domain false) (Rows.storeTextsSpec.post enc Try.prog Try.f3 false true false false) := by
  refine returnsInHanded_of_change (C := Try.checked) own started (by kernel_rfl) Try.func3
    (ChangeSpec.witness6 (enc := enc) (C := Try.checked) false ⟨#[], #[.slice none 0 0, .slice none 0 0], []⟩ 8 (by kernel_rfl) (by kernel_rfl) (by kernel_rfl) (by kernel_rfl)) ?_
  intro W base args ds gs before hval0 hW hcnd _
  have hval : ∀ (j : Nat) t v, Try.f3.params[j]? = some t → args[j]? = some v → Value.okWide Try.prog W .any base t v := hval0
  have hW' := hW
  obtain ⟨p, q, hA0, hV, rfl, hfz, hnd⟩ := hW
  have hA : DataW.TrodAll enc Try.prog W 0 (fun _ => true) true Try.f3.params.toList args.toList ds p := hA0
  rw [Try.params3] at hA hval
  obtain ⟨v0, vs0, d0, ds0, p0, q0, hargs, rfl, rfl, h0, r0⟩ := trodAll_cons hA
  obtain ⟨v1, vs1, d1, ds1, p1, q1, rfl, rfl, rfl, h1, r1⟩ := trodAll_cons r0
  obtain ⟨rfl, rfl, rfl⟩ := trodAll_nil r1
  obtain rfl : args = #[v0, v1] := by cases args; simp_all
  obtain ⟨rfl, rfl⟩ := trodVars_none hV
  obtain ⟨a0, len0, cap0, rfl⟩ := okWide_slice Try.underlying22 (hval 0 22 v0 rfl rfl)
  obtain ⟨a1, len1, cap1, rfl⟩ := okWide_slice Try.underlying23 (hval 1 23 v1 rfl rfl)
  have k0 := h0
  have lt0 : ∀ x ∈ p0, x.block < W.heap.size := by obtain ⟨m, hm⟩ := k0; exact DataW.trod_lt m _ _ _ hm
  have k1 := h1
  have lt1 : ∀ x ∈ p1, x.block < W.heap.size := by obtain ⟨m, hm⟩ := k1; exact DataW.trod_lt m _ _ _ hm
  obtain ⟨l, hl⟩ := open_chs h0
  obtain ⟨b, hb⟩ := open_byt h1
  clear hA0 hval0
  refine (walk a0 len0 cap0 l a1 len1 cap1 b W hl hb).mono fun e W' ⟨he, bel⟩ => ?_
  subst he
  exact ⟨_, rfl, _, _, _, [], _, [], hW', trodAll_mk1 (shut_bool Try.underlying4 _), (trodAll_cons_mk (Below.trod laidOut (by kernel_rfl) (of_decide_eq_true (by kernel_rfl)) k0 bel lt0) (trodAll_cons_mk (Below.trod laidOut (by kernel_rfl) (of_decide_eq_true (by kernel_rfl)) k1 bel lt1) trodAll_mk0)), rfl, bel.frame _, fun h => by cases h⟩

theorem over : Rows.storeTextsRow.holds Try.pinned (OpenSpec.ofChange Rows.storeTextsSpec) :=
  OpenClaim.holds_of_wide 3 Try.f3 rfl rfl rfl rfl rfl rfl rfl ⟨rfl, rfl, rfl, rfl, rfl⟩ rfl rfl rfl rfl rfl (by kernel_rfl) Try.func3 (by kernel_rfl)
    (of_decide_eq_true (by kernel_rfl)) (by unfold Func.isWrapper; first | (rw [if_pos (by decide +kernel)]; kernel_rfl) | (rw [if_neg (by decide +kernel)]; exact ⟨rfl, rfl⟩))
    (fun os started H enc _ => lifted os started H enc)

/-- the statement -/
theorem proved : Rows.StoreTextsSaid := over
end Go.Proofs.Ytjnjokbdoendkaa.storeTexts
namespace Go.Proofs.Ytjnjokbdoendkaa
theorem storeTexts_holds : Rows.StoreTextsSaid := storeTexts.proved
#print axioms storeTexts_holds
end Go.Proofs.Ytjnjokbdoendkaa
