/- Two stores, the program's and the document's, tell the same. Both logs, the program's and the document's, side by side; texts laid on two disks. -/
import Derived.Test.YtjnjokbdoendkaaGreatSrb
import Derived.Test.YtjnjokbdoendkaaGreatSAll
import Derived.Test.YtjnjokbdoendkaaGreatSSort
import Derived.Test.YtjnjokbdoendkaaGreatSla
import Derived.Deep.Slices
namespace Go.Proofs.YtjnjokbdoendkaaGreat
open Go.RowKit
set_option linter.unusedVariables false

/-- a list whose values may be written: where they lie, whatever is in them -/
structure WrP (N : Nat) (wr : World) (b : Nat) (Z : List (It Pr)) : Prop where
  row : ∀ i (h : i < Z.length), wr.cell? ⟨b, i * 2 + 1, none⟩ = some (.slice Z[i].a Z[i].n Z[i].c)
  ge : N ≤ b
  bd : ∀ z ∈ Z, z.n ≤ 9223372036854775807
  val : ∀ z ∈ Z, 0 < z.n → ∃ vb off, z.a = some ⟨vb, off, none⟩ ∧ N ≤ vb ∧ vb ≠ b ∧ ∀ j, j < z.n → (∃ x, wr.cell? ⟨vb, off + j, none⟩ = some (.int .u8 x)) ∧ wr.frozen? ⟨vb, off + j, none⟩ = false
set_option maxRecDepth 100000 in
theorem WrP.set {N : Nat} {wr : World} {b : Nat} {Z : List (It Pr)} (h : WrP N wr b Z) {vb o : Nat} (hne : vb ≠ b) (hc : ∃ x, wr.cell? ⟨vb, o, none⟩ = some (.int .u8 x)) (y : Int) : WrP N (wr.setCell ⟨vb, o, none⟩ (.int .u8 y)) b Z := by
  refine ⟨fun i hi => ?_, h.ge, h.bd, fun z hz hp => ?_⟩
  · rw [World.cell?_of_block (a := ⟨b, i * 2 + 1, none⟩) (heap_setCell_other wr ⟨vb, o, none⟩ b _ (fun e => hne e.symm))]
    exact h.row i hi
  · obtain ⟨vb2, off2, e1, e2, e3, e4⟩ := h.val z hz hp
    refine ⟨vb2, off2, e1, e2, e3, fun j hj => ⟨?_, by rw [World.frozen?_setCell]; exact (e4 j hj).2⟩⟩
    by_cases hq : (⟨vb2, off2 + j, none⟩ : Addr) = ⟨vb, o, none⟩
    · obtain ⟨x, hx⟩ := hc
      rw [hq]
      exact ⟨y, World.cell?_setCell_same' _ _ _ (by rw [hx]; rfl)⟩
    · obtain ⟨x, hx⟩ := (e4 j hj).1
      exact ⟨x, by rw [World.cell?_setCell_other _ _ _ _ (fun e => hq e.symm)]; exact hx⟩
set_option maxRecDepth 100000 in
theorem wrp_of {w w' : World} {N : Nat} {own : Nat → Prop} {g n cap : Nat} {L : List Pr} (h : PL w own (.slice (some ⟨g, 0, none⟩) n cap) L) (ho : ∀ k, own k → N ≤ k) (hb : Below w.heap.size w w') : ∃ Z : List (It Pr), Z.length = L.length ∧ WrP N w' g Z := by
  obtain ⟨Z, hZ, hown, hz⟩ := (h.below hb).row
  have hZl : Z.length = L.length := by rw [← hZ, List.length_map]
  have hn : n = L.length := by
    rcases hown.2 with ⟨h1, _⟩ | ⟨g', cap', cur, hv, _⟩
    · cases h1
    · cases hv; rfl
  subst hn
  refine ⟨Z, hZl, fun i hi => ?_, ho g (h.ob g rfl), fun z hz2 => by have h1 := Nat.le_trans (hz z hz2).1.le_cap (hz z hz2).1.cap_le; unfold maxLen at h1; omega, fun z hz2 hp => ?_⟩
  · rw [hown.cellAt (i * 2 + 1) (by omega), flat_get prE_len Z i 1 hi (by decide)]; rfl
  · obtain ⟨h1, h2⟩ := hz z hz2
    obtain ⟨vb, off, e, _, hc⟩ := h1.spot hp
    obtain ⟨h3, h4, h5⟩ := h2 hp _ e
    exact ⟨vb, off, e, ho _ h3, fun e2 => h4 (by rw [← e2]; rfl), fun j hj => ⟨⟨_, hc j hj⟩, h5 _⟩⟩
/-- both stores, side by side -/
structure TwoS (w : World) (gd gl gs : Nat) (oD oL oS : Nat → Prop) (gx gy gz : Nat) (oX oY B : Nat → Prop) (s : DS) (m : Nat) (L : LS) (q q2 : Int) (M K : List Pr) (a : Option Addr) (n c : Nat) : Prop where
  t : Tri w gd gl gs oD oL oS s L q M
  x : RS w gx oX s m
  y : Rg w gy oY gx L
  z : RSt w gz gy q2 B a n c K
  r : Rep K M
  nx : L.next ≤ s.F.length
  nf : s.F.length ≤ 4096
  ml : M.length ≤ 500000
  by_ : byM M ≤ 1000000000000
  ks : ∀ p ∈ K, p.1.size ≤ 1000000
section
variable {w w' : World} {gd gl gs : Nat} {oD oL oS : Nat → Prop} {gx gy gz : Nat} {oX oY B : Nat → Prop} {s : DS} {m : Nat} {L : LS} {q q2 : Int} {M K : List Pr} {a : Option Addr} {n c : Nat}
set_option maxRecDepth 100000 in
theorem TwoS.below (h : TwoS w gd gl gs oD oL oS gx gy gz oX oY B s m L q q2 M K a n c) (hb : Below w.heap.size w w') : TwoS w' gd gl gs oD oL oS gx gy gz oX oY B s m L q q2 M K a n c :=
  ⟨h.t.below hb, h.x.below hb, h.y.below hb, h.z.below hb, h.r, h.nx, h.nf, h.ml, h.by_, h.ks⟩
set_option maxRecDepth 100000 in
theorem TwoS.ln (h : TwoS w gd gl gs oD oL oS gx gy gz oX oY B s m L q q2 M K a n c) : n ≤ 1000000 := by
  have h1 := h.z.pt.len_eq
  have h2 := h.r.p.length_eq
  have h3 := h.ml
  omega
end
set_option maxRecDepth 100000 in
set_option maxHeartbeats 8000000 in
set_option maxRecDepth 100000 in
theorem tells_any (gd gl gs : Nat) (oD oL oS : Nat → Prop) (gx gy gz : Nat) (oX oY B : Nat → Prop) (s : DS) (m : Nat) (L : LS) (q q2 : Int) (M K : List Pr) (a : Option Addr) (n c : Nat) (front after : ByteArray) (most : Int) (w : World) (h : TwoS w gd gl gs oD oL oS gx gy gz oX oY B s m L q q2 M K a n c) (hf : front.size ≤ 1000000) (hm1 : -9223372036854775808 ≤ most) (hm2 : most ≤ 9223372036854775807) :
    Calls Tryz.prog 22 #[.pointer (some ⟨gs, 0, none⟩), .pointer (some ⟨gz, 0, none⟩), .string front, .string after, .int .i64 most] w fun e w' => e = .returned (.bool true) ∧ Below w.heap.size w w' := by
  have HT0 := Bx.mk h
  have HGB : Bx (Byt ((gtM M after).getD [])) := ⟨by
    obtain ⟨gm, es, clock, Z, hs⟩ := h.t.t
    obtain ⟨a, n, c, b, _, hbt, _⟩ := hs.look after
    exact hbt.byt⟩
  clear h
  go_enter Tryz.func22, Tryz.ntmps22
  go_wp2_with fail
  refine (get_any gs gl q _ oS M after _ HT0.out.t.t).mono ?_
  rintro e w1 ⟨v1, rfl, hown1, hb1⟩
  obtain ⟨a1, c1, rfl, hm1'⟩ := Bts.of_owns hown1 HGB.out
  have HM1 := Bx.mk hm1'
  have HT1 := Bx.mk (HT0.out.below hb1)
  have HB1 := Bx.mk hb1
  clear hown1 hm1' hb1 HT0
  go_wp2_with fail
  refine (rget_any _ a n c gz K after _ HT1.out.z.pt HT1.out.z.c2).mono ?_
  rintro e w' ⟨a2, n2, c2, rfl, hm2', rfl⟩
  rw [HT1.out.r.get after] at hm2' ⊢
  have HM2 := Bx.mk hm2'
  have hN := HT1.out.ln
  clear hm2'
  generalize (gtM M after).isSome = ok
  generalize (gtM M after).getD [] = vv at HM1 HM2 ⊢
  obtain ⟨n1, HN1⟩ : ∃ x, Bx (vv.length = x) := ⟨_, ⟨rfl⟩⟩
  rw [HN1.out] at HM1 ⊢
  have d0 := HT1.out.z.c0
  have d2 := HT1.out.z.c2
  -- the five calls of the first test
  have HX : Bx (∀ W, Below w1.heap.size w1 W → W.cell? ⟨gz, 0, none⟩ = some (.pointer (some ⟨gy, 0, none⟩)) ∧ W.cell? ⟨gz, 2, none⟩ = some (.slice a n c) ∧ Below w1.heap.size w1 W) := ⟨fun W hW => ⟨(HT1.out.below hW).z.c0, (HT1.out.below hW).z.c2, hW⟩⟩
  have HC1 : Bx (∀ W, (W.cell? ⟨gz, 0, none⟩ = some (.pointer (some ⟨gy, 0, none⟩)) ∧ W.cell? ⟨gz, 2, none⟩ = some (.slice a n c) ∧ Below w1.heap.size w1 W) → Calls Tryz.prog 33 #[.slice a1 n1 c1, .slice a2 n2 c2] W fun e w' => e = .returned (.bool true) ∧ (w'.cell? ⟨gz, 0, none⟩ = some (.pointer (some ⟨gy, 0, none⟩)) ∧ w'.cell? ⟨gz, 2, none⟩ = some (.slice a n c) ∧ Below w1.heap.size w1 w')) := ⟨fun W hW => by
    refine (same_yes a1 a2 n1 n2 c1 c2 vv W (HM1.out.below hW.2.2) (HM2.out.below hW.2.2)).mono ?_
    rintro e w' ⟨rfl, q9, rfl⟩
    exact ⟨rfl, HX.out _ (below_drewN hW.2.2 q9)⟩⟩
  have HC2 : Bx (∀ W, (W.cell? ⟨gz, 0, none⟩ = some (.pointer (some ⟨gy, 0, none⟩)) ∧ W.cell? ⟨gz, 2, none⟩ = some (.slice a n c) ∧ Below w1.heap.size w1 W) → Calls Tryz.prog 28 #[.pointer (some ⟨gs, 0, none⟩)] W fun e w' => e = .returned (.int .i64 (byM M)) ∧ (w'.cell? ⟨gz, 0, none⟩ = some (.pointer (some ⟨gy, 0, none⟩)) ∧ w'.cell? ⟨gz, 2, none⟩ = some (.slice a n c) ∧ Below w1.heap.size w1 w')) := ⟨fun W hW => by
    refine (used_any gs gl q _ oS M W (HT1.out.below hW.2.2).t.t).mono ?_
    rintro e w' ⟨rfl, rfl⟩
    exact ⟨rfl, hW⟩⟩
  have HC3 : Bx (∀ W, (W.cell? ⟨gz, 0, none⟩ = some (.pointer (some ⟨gy, 0, none⟩)) ∧ W.cell? ⟨gz, 2, none⟩ = some (.slice a n c) ∧ Below w1.heap.size w1 W) → Calls Tryz.prog 29 #[.slice a n c] W fun e w' => e = .returned (.int .i64 (byM M)) ∧ (w'.cell? ⟨gz, 0, none⟩ = some (.pointer (some ⟨gy, 0, none⟩)) ∧ w'.cell? ⟨gz, 2, none⟩ = some (.slice a n c) ∧ Below w1.heap.size w1 w')) := ⟨fun W hW => by
    have hT := HT1.out.below hW.2.2
    refine (rbytes11_any _ a n c K W hT.z.pt (by rw [byM_perm hT.r.p]; exact hT.by_)).mono ?_
    rintro e w' ⟨rfl, q9, rfl⟩
    exact ⟨by rw [byM_perm hT.r.p], HX.out _ (below_drewN hW.2.2 q9)⟩⟩
  have HC4 : Bx (∀ W, (W.cell? ⟨gz, 0, none⟩ = some (.pointer (some ⟨gy, 0, none⟩)) ∧ W.cell? ⟨gz, 2, none⟩ = some (.slice a n c) ∧ Below w1.heap.size w1 W) → Calls Tryz.prog 30 #[.pointer (some ⟨gs, 0, none⟩)] W fun e w' => e = .returned (.int .i64 (roomV s.F.length L.next)) ∧ (w'.cell? ⟨gz, 0, none⟩ = some (.pointer (some ⟨gy, 0, none⟩)) ∧ w'.cell? ⟨gz, 2, none⟩ = some (.slice a n c) ∧ Below w1.heap.size w1 w')) := ⟨fun W hW => by
    have hT := HT1.out.below hW.2.2
    refine (sroom_any gd gl gs oD oL oS s L q M W hT.t hT.nx).mono ?_
    rintro e w' ⟨rfl, q9, rfl⟩
    exact ⟨rfl, HX.out _ (below_drewN hW.2.2 q9)⟩⟩
  have HC5 : Bx (∀ W, (W.cell? ⟨gz, 0, none⟩ = some (.pointer (some ⟨gy, 0, none⟩)) ∧ W.cell? ⟨gz, 2, none⟩ = some (.slice a n c) ∧ Below w1.heap.size w1 W) → Calls Tryz.prog 51 #[.pointer (some ⟨gy, 0, none⟩)] W fun e w' => e = .returned (.int .i64 (roomV s.F.length L.next)) ∧ (w'.cell? ⟨gz, 0, none⟩ = some (.pointer (some ⟨gy, 0, none⟩)) ∧ w'.cell? ⟨gz, 2, none⟩ = some (.slice a n c) ∧ Below w1.heap.size w1 w')) := ⟨fun W hW => by
    have hT := HT1.out.below hW.2.2
    refine (rroom_any gy gx oX oY s m L W hT.x hT.y hT.nx hT.nf).mono ?_
    rintro e w' ⟨rfl, q9, rfl⟩
    exact ⟨rfl, HX.out _ (below_drewN hW.2.2 q9)⟩⟩
  have hS0 : w1.drew.cell? ⟨gz, 0, none⟩ = some (.pointer (some ⟨gy, 0, none⟩)) ∧ w1.drew.cell? ⟨gz, 2, none⟩ = some (.slice a n c) ∧ Below w1.heap.size w1 w1.drew := ⟨d0, d2, (Below.refl _ _).drew⟩
  generalize roomV s.F.length L.next = RV at HC4 HC5
  generalize byM M = BM at HC2 HC3
  clear d0 d2
  go_wp2_with fail
  go_region_held3 (fun W => W.cell? ⟨gz, 0, none⟩ = some (.pointer (some ⟨gy, 0, none⟩)) ∧ W.cell? ⟨gz, 2, none⟩ = some (.slice a n c) ∧ Below w1.heap.size w1 W) (first | (exact hS0) | (exact hb6) | (assumption)) (first
    | (go_at_call 33; refine (HC1.out _ (by assumption)).mono ?_; rintro e6 w6 ⟨rfl, hb6⟩)
    | (go_at_call 28; refine (HC2.out _ (by assumption)).mono ?_; rintro e6 w6 ⟨rfl, hb6⟩)
    | (go_at_call 29; refine (HC3.out _ (by assumption)).mono ?_; rintro e6 w6 ⟨rfl, hb6⟩)
    | (go_at_call 30; refine (HC4.out _ (by assumption)).mono ?_; rintro e6 w6 ⟨rfl, hb6⟩)
    | (go_at_call 51; refine (HC5.out _ (by assumption)).mono ?_; rintro e6 w6 ⟨rfl, hb6⟩))
  rename_i hHeld
  have HT5 := Bx.mk (HT1.out.below hHeld.2.2)
  have HB5 := Bx.mk (bstep HB1.out hHeld.2.2)
  clear hHeld hS0 HC1 HC2 HC3 HC4 HC5 HX HM1 HM2 HB1 HT1
  go_wp2_with fail
  refine (all_any gs gl q _ oS M K _ HT5.out.t.t HT5.out.r (by have := HT5.out.ml; omega)).mono ?_
  rintro e wA ⟨vA, rfl, hpA, hbA⟩
  obtain ⟨aA, cA, rfl, hptA⟩ := hpA.rt prE_len
  have HPL := Bx.mk hpA
  have HPT := Bx.mk hptA
  have HTA := Bx.mk (HT5.out.below hbA)
  have HBA := Bx.mk hbA
  have d2 := HTA.out.z.c2
  obtain ⟨nA, HNA⟩ : ∃ x, Bx (K.length = x) := ⟨_, ⟨rfl⟩⟩
  rw [HNA.out] at HPL HPT ⊢
  clear hpA hptA hbA
  go_wp2_with fail
  refine (psame_any _ _ _ _ _ _ _ _ _ _ _ HPT.out HTA.out.z.pt).mono ?_
  rintro e wB ⟨rfl, hbB⟩
  rw [decide_eq_true rfl]
  have HTB := Bx.mk (HTA.out.below hbB)
  have HLB := Bx.mk hbB
  clear hbB d2
  go_wp2_with fail
  refine (scan_any sort_says gs gl q _ oS M K front after most _ HTB.out.t.t HTB.out.r (by have := HTB.out.ml; omega) hm1 hm2).mono ?_
  rintro e wC ⟨vC, rfl, hpC, hbC⟩
  obtain ⟨aC, cC, rfl, hptC⟩ := hpC.rt prE_len
  have HPC := Bx.mk hptC
  have HTC := Bx.mk (HTB.out.below hbC)
  have HLC := Bx.mk (bstep HLB.out hbC)
  clear hpC hptC hbC HTB HLB
  generalize (scL K front after most).length = nC at HPC ⊢
  go_wp2_with fail
  refine (rscan_any _ a n c gz gy q2 K front after most _ HTC.out.z hN HTC.out.ks hf).mono ?_
  rintro e wD ⟨aD, nD, cD, rfl, hpD, hbD⟩
  have HPD := Bx.mk hpD
  have HPC2 := Bx.mk (HPC.out.below hbD)
  have HLD := Bx.mk (bstep HLC.out hbD)
  clear hpD hbD HTC HLC HPC
  go_wp2_with fail
  refine (psame_any _ _ _ _ _ _ _ _ _ _ _ HPC2.out HPD.out).mono ?_
  rintro e wE ⟨rfl, hbE⟩
  rw [decide_eq_true rfl]
  have HLE := Bx.mk (bstep HLD.out hbE)
  clear hbE HLD HPC2 HPD HPT HTA
  -- what is held stays, whatever is written into what was told
  obtain ⟨w0, hw0⟩ : ∃ x, x = w6 := ⟨_, rfl⟩
  subst hw0
  obtain ⟨N0, hN0⟩ : ∃ x, x = w0.heap.size := ⟨_, rfl⟩
  have HT : Bx (TwoS w0 gd gl gs oD oL oS gx gy gz oX oY B s m L q q2 M K a n c) := HT5
  have HW0 : Bx (Below w.heap.size w w0) := HB5
  have HN0 : Bx (w.heap.size ≤ w0.heap.size) := ⟨HB5.out.size⟩
  have HLE0 : Bx (Below w0.heap.size w0 wE) := ⟨bstep HBA.out HLE.out⟩
  clear hN0 HT5 HB5
  by_cases hz : nA = 0
  · subst hz
    have hbr := HLE0.out
    clear HPL HBA HLE
    go_wp2_with fail
    go_loopw [16] (fun i wr => i = .int .i64 0 ∧ Below w0.heap.size w0 wr) (fun _ _ => 0)
    case atStart => exact ⟨rfl, hbr⟩
    case round =>
      clear hbr
      obtain ⟨rfl, hbr⟩ := hrel
      go_wp2_with fail
      -- all of it once more
      have HTE := Bx.mk (HT.out.below hbr)
      have e2 := HTE.out.z.c2
      have HCL1 : Bx (∀ W, (W.cell? ⟨gz, 2, none⟩ = some (.slice a n c) ∧ Below wr.heap.size wr W) → Calls Tryz.prog 27 #[.pointer (some ⟨gs, 0, none⟩)] W fun e w' => ∃ a6 n6 c6, e = .returned (.slice a6 n6 c6) ∧ PT (fun _ => True) w' a6 n6 c6 K ∧ (w'.cell? ⟨gz, 2, none⟩ = some (.slice a n c) ∧ Below wr.heap.size wr w')) := ⟨fun W hW => by
        have hT6 := HTE.out.below hW.2
        refine (all_any gs gl q _ oS M K W hT6.t.t hT6.r (by have := hT6.ml; omega)).mono ?_
        rintro e w' ⟨v, rfl, hp, hb⟩
        obtain ⟨a6, c6, rfl, hpt⟩ := hp.rt prE_len
        have hb6 := bstep hW.2 hb
        exact ⟨a6, _, c6, rfl, hpt.any, (HTE.out.below hb6).z.c2, hb6⟩⟩
      have HCL2 : Bx (∀ W a6 n6 c6, PT (fun _ => True) W a6 n6 c6 K → (W.cell? ⟨gz, 2, none⟩ = some (.slice a n c) ∧ Below wr.heap.size wr W) → Calls Tryz.prog 26 #[.slice a6 n6 c6, .slice a n c] W fun e w' => e = .returned (.bool true) ∧ (w'.cell? ⟨gz, 2, none⟩ = some (.slice a n c) ∧ Below wr.heap.size wr w')) := ⟨fun W a6 n6 c6 hp hW => by
        refine (psame_any _ _ _ _ _ _ _ _ _ _ _ hp (HTE.out.below hW.2).z.pt).mono ?_
        rintro e w' ⟨rfl, hb⟩
        have hb6 := bstep hW.2 hb
        exact ⟨by rw [decide_eq_true rfl], (HTE.out.below hb6).z.c2, hb6⟩⟩
      have hS9 : wr.drew.cell? ⟨gz, 2, none⟩ = some (.slice a n c) ∧ Below wr.heap.size wr wr.drew := ⟨e2, (Below.refl _ _).drew⟩
      clear e2
      go_wp2_with fail
      go_region_held3 (fun W => W.cell? ⟨gz, 2, none⟩ = some (.slice a n c) ∧ Below wr.heap.size wr W) (first | (exact hS9) | (exact hb6) | (assumption)) (first
        | (go_at_call 27; refine (HCL1.out _ (by assumption)).mono ?_; rintro e6 w6 ⟨a6, n6, c6, rfl, hp6, hb6⟩)
        | (go_at_call 26; refine (HCL2.out _ _ _ _ hp6 (by assumption)).mono ?_; rintro e7 w7 ⟨rfl, hb6⟩))
      rename_i hHeld
      have hfin := HW0.out.trans (hbr.mono HN0.out)
      have hfin2 := bstep hfin hHeld.2
      go_wp2_with fail
      go_ret
      exact ⟨rfl, hfin2⟩
  · obtain ⟨g, hg⟩ : ∃ g, aA = some ⟨g, 0, none⟩ := by
      obtain ⟨Z, _, hown, _⟩ := HPL.out.row
      rcases hown.2 with ⟨h1, h2⟩ | ⟨g, cap, cur, hv, _⟩
      · rw [HNA.out] at h2; exact absurd h2 hz
      · cases hv; exact ⟨g, rfl⟩
    subst hg
    obtain ⟨Z, hZl, hWr⟩ := wrp_of HPL.out (fun k hk => hk.1) HLE.out
    have HZL : Bx (Z.length = nA) := ⟨by rw [hZl, HNA.out]⟩
    have hst : WrP w0.heap.size wE g Z ∧ Below w0.heap.size w0 wE := ⟨hWr, HLE0.out⟩
    have HCAP : Bx (nA ≤ cA ∧ cA ≤ 9223372036854775807) := ⟨by
      obtain ⟨_, _, hown, _⟩ := HPL.out.row
      rcases hown.2 with ⟨h1, _⟩ | ⟨g', cap', cur, hv, _, _, h1, h2, _⟩
      · cases h1
      · cases hv; unfold maxLen at h2; rw [HNA.out] at h1; omega⟩
    have hcap := HCAP.out
    clear hWr hZl HPL HBA HLE HLE0 HCAP
    go_wp2_with fail
    go_loopw [16] (fun i wr => ∃ k : Nat, k ≤ nA ∧ i = .int .i64 k ∧ Bx (WrP w0.heap.size wr g Z ∧ Below w0.heap.size w0 wr)) (fun i _ => nA - (intOf i).toNat)
    case atStart => exact ⟨0, Nat.zero_le _, rfl, ⟨hst⟩⟩
    case round =>
      clear hst
      obtain ⟨k, hk, rfl, HWR⟩ := hrel
      by_cases hlt : k < nA
      · have hkI : (k : Int) < (nA : Int) := by omega
        have hkZ : k < Z.length := by rw [HZL.out]; exact hlt
        obtain ⟨z, HZ⟩ : ∃ z, Bx (Z[k] = z) := ⟨_, ⟨rfl⟩⟩
        have HZM : Bx (z ∈ Z) := ⟨by rw [← HZ.out]; exact List.getElem_mem hkZ⟩
        obtain ⟨za, zn, zc, HZA⟩ : ∃ za zn zc, Bx (z.a = za ∧ z.n = zn ∧ z.c = zc) := ⟨_, _, _, ⟨rfl, rfl, rfl⟩⟩
        have hzn : zn ≤ 9223372036854775807 := by rw [← HZA.out.2.1]; exact HWR.out.1.bd z HZM.out
        go_wp2_with fail
        go_loopw [17] (fun i wr => ∃ j : Nat, i = .int .i64 j ∧ Bx (WrP w0.heap.size wr g Z ∧ Below w0.heap.size w0 wr)) (fun i _ => zn - (intOf i).toNat)
        case atStart => exact ⟨0, rfl, HWR⟩
        case round =>
          obtain ⟨j, rfl, HW2⟩ := hrel
          have hrow := HW2.out.1.row k hkZ
          rw [HZ.out, HZA.out.1, HZA.out.2.1, HZA.out.2.2] at hrow
          by_cases hj : j < zn
          · have hjI : (j : Int) < (zn : Int) := by omega
            obtain ⟨vb, off, e1, e2, e3, e4⟩ := HW2.out.1.val z HZM.out (by rw [HZA.out.2.1]; omega)
            obtain rfl : za = some ⟨vb, off, none⟩ := by rw [← HZA.out.1]; exact e1
            obtain ⟨⟨x, hx⟩, hff⟩ := e4 j (by rw [HZA.out.2.1]; exact hj)
            have HW3 : Bx (WrP w0.heap.size (wr.setCell ⟨vb, off + j, none⟩ (.int .u8 7)) g Z ∧ Below w0.heap.size w0 (wr.setCell ⟨vb, off + j, none⟩ (.int .u8 7))) := ⟨HW2.out.1.set e3 ⟨x, hx⟩ 7, HW2.out.2.setCell (p := ⟨vb, off + j, none⟩) e2 _⟩
            clear HW2 e1 e2 e3 e4 HWR
            go_wp2_with fail
            go_roundw
            case rel => exact ⟨j + 1, by go_num, HW3⟩
            case measure => simp [intOf]; omega
          · have hjI : ¬ (j : Int) < (zn : Int) := by omega
            clear HWR
            go_wp2_with fail
            go_roundw
            case rel => exact ⟨k + 1, by omega, by go_num, HW2⟩
            case measure => simp [intOf]; omega
      · have hkI : ¬ (k : Int) < (nA : Int) := by omega
        have hbr := HWR.out.2
        clear HWR
        go_wp2_with fail
        -- all of it once more
        have HTE := Bx.mk (HT.out.below hbr)
        have e2 := HTE.out.z.c2
        have HCL1 : Bx (∀ W, (W.cell? ⟨gz, 2, none⟩ = some (.slice a n c) ∧ Below wr.heap.size wr W) → Calls Tryz.prog 27 #[.pointer (some ⟨gs, 0, none⟩)] W fun e w' => ∃ a6 n6 c6, e = .returned (.slice a6 n6 c6) ∧ PT (fun _ => True) w' a6 n6 c6 K ∧ (w'.cell? ⟨gz, 2, none⟩ = some (.slice a n c) ∧ Below wr.heap.size wr w')) := ⟨fun W hW => by
          have hT6 := HTE.out.below hW.2
          refine (all_any gs gl q _ oS M K W hT6.t.t hT6.r (by have := hT6.ml; omega)).mono ?_
          rintro e w' ⟨v, rfl, hp, hb⟩
          obtain ⟨a6, c6, rfl, hpt⟩ := hp.rt prE_len
          have hb6 := bstep hW.2 hb
          exact ⟨a6, _, c6, rfl, hpt.any, (HTE.out.below hb6).z.c2, hb6⟩⟩
        have HCL2 : Bx (∀ W a6 n6 c6, PT (fun _ => True) W a6 n6 c6 K → (W.cell? ⟨gz, 2, none⟩ = some (.slice a n c) ∧ Below wr.heap.size wr W) → Calls Tryz.prog 26 #[.slice a6 n6 c6, .slice a n c] W fun e w' => e = .returned (.bool true) ∧ (w'.cell? ⟨gz, 2, none⟩ = some (.slice a n c) ∧ Below wr.heap.size wr w')) := ⟨fun W a6 n6 c6 hp hW => by
          refine (psame_any _ _ _ _ _ _ _ _ _ _ _ hp (HTE.out.below hW.2).z.pt).mono ?_
          rintro e w' ⟨rfl, hb⟩
          have hb6 := bstep hW.2 hb
          exact ⟨by rw [decide_eq_true rfl], (HTE.out.below hb6).z.c2, hb6⟩⟩
        have hS9 : wr.drew.cell? ⟨gz, 2, none⟩ = some (.slice a n c) ∧ Below wr.heap.size wr wr.drew := ⟨e2, (Below.refl _ _).drew⟩
        clear e2
        go_wp2_with fail
        go_region_held3 (fun W => W.cell? ⟨gz, 2, none⟩ = some (.slice a n c) ∧ Below wr.heap.size wr W) (first | (exact hS9) | (exact hb6) | (assumption)) (first
          | (go_at_call 27; refine (HCL1.out _ (by assumption)).mono ?_; rintro e6 w6 ⟨a6, n6, c6, rfl, hp6, hb6⟩)
          | (go_at_call 26; refine (HCL2.out _ _ _ _ hp6 (by assumption)).mono ?_; rintro e7 w7 ⟨rfl, hb6⟩))
        rename_i hHeld
        have hfin := HW0.out.trans (hbr.mono HN0.out)
        have hfin2 := bstep hfin hHeld.2
        go_wp2_with fail
        go_ret
        exact ⟨rfl, hfin2⟩
end Go.Proofs.YtjnjokbdoendkaaGreat
namespace Go.Proofs.YtjnjokbdoendkaaGreat
open Go.ChangeShapes Go.WideShapes Go.ChangeAt Go.RowKit

set_option maxRecDepth 100000 in
/-- a list of texts that came in -/
theorem open_txs {H : Type} {enc : TypeId × Value → H} {W : World} {a : Option Addr} {len cap : Nat} {d : DataW H} {p : List MemPlace} {held : Bool} {bs : Nat}
    (h : DataW.Trod enc Tryz.prog W bs (fun _ => true) held 57 (.slice a len cap) d p) : ∃ T, Txs W a len cap T := by
  obtain ⟨fuel, hf⟩ := h
  rcases Deep.open_slice1 Tryz.underlying57 (by kernel_rfl) hf with ⟨hcs, _⟩ | ⟨a, l, c, m, n, V, D, Pl, hcs, _, hl, hm, hmm, _, hel⟩
  · simp [Value.cells] at hcs
    obtain ⟨rfl, rfl, rfl⟩ := hcs
    exact ⟨[], rfl, Nat.le_refl _, Nat.zero_le _, fun hp => absurd hp (Nat.lt_irrefl _)⟩
  · simp [Value.cells] at hcs
    obtain ⟨rfl, rfl, rfl⟩ := hcs
    have hmm' : m = cap := by simpa using hmm
    have hone : ∀ i, i < len → ∃ ai li ci z, W.cell? (a.add i) = some (.slice ai li ci) ∧ Bts W ai li ci z := by
      intro i hi
      obtain ⟨e1, e2⟩ := hel i (by omega)
      rcases open_ints Tryz.underlying46 Tryz.underlying5 (by kernel_rfl) e2 with ⟨hcs, _⟩ | ⟨x, l2, c2, zs, hcs, _, hl2, hm2, hz2, _, hcell, hwz⟩
      · have hVi : V i = .slice none 0 0 := by simpa using hcs
        exact ⟨none, 0, 0, _, by rw [e1, hVi], Bts.of_row (zs := []) (.inl ⟨rfl, rfl, rfl, rfl⟩)⟩
      · have hVi : V i = .slice (some x) l2 c2 := by simpa using hcs
        exact ⟨some x, l2, c2, _, by rw [e1, hVi], Bts.of_row (.inr ⟨x, rfl, hl2, hm2, by simpa using hz2, hcell, hwz⟩)⟩
    have hgen : ∀ m, m ≤ len → ∃ T : List (List Int), T.length = m ∧ ∀ i, i < m → ∃ ai li ci, W.cell? (a.add i) = some (.slice ai li ci) ∧ Bts W ai li ci (T.getD i []) := by
      intro m
      induction m with
      | zero => intro _; exact ⟨[], rfl, fun i hi => absurd hi (Nat.not_lt_zero _)⟩
      | succ m ih =>
        intro hm
        obtain ⟨T, hT, hTe⟩ := ih (by omega)
        obtain ⟨ai, li, ci, z, hz1, hz2⟩ := hone m (by omega)
        refine ⟨T ++ [z], by simp [hT], fun i hi => ?_⟩
        by_cases him : i = m
        · subst him
          refine ⟨ai, li, ci, hz1, ?_⟩
          rw [List.getD_eq_getElem?_getD, List.getElem?_append_right (by omega), hT, Nat.sub_self]
          exact hz2
        · obtain ⟨aj, lj, cj, e1, e2⟩ := hTe i (by omega)
          refine ⟨aj, lj, cj, e1, ?_⟩
          rw [List.getD_eq_getElem?_getD, List.getElem?_append_left (by omega), ← List.getD_eq_getElem?_getD]
          exact e2
    obtain ⟨T, hT, hTe⟩ := hgen len (Nat.le_refl _)
    refine ⟨T, hT, hl, hm, fun hp => ?_⟩
    obtain ⟨b, off, sp⟩ := a
    obtain ⟨_, _, _, h00, _⟩ := hTe 0 hp
    have hsp : sp = none := by simpa [Addr.add] using World.cell?_spot h00
    subst hsp
    refine ⟨b, off, rfl, by have := World.block_lt_of_cell? W _ h00; simpa [Addr.add] using this, fun i hi => ?_⟩
    obtain ⟨ai, li, ci, e1, e2⟩ := hTe i hi
    rw [Addr.add_lit] at e1
    exact ⟨ai, li, ci, e1, e2⟩
/-- both disks and both logs -/
structure LL (w0 w : World) (gd gl gx gy : Nat) (s1 : DS) (L1 : LS) (s2 : DS) (m : Nat) (L2 : LS) : Prop where
  ex : ∃ oD oL oX oY, Dsk w gd oD s1 ∧ Lg w gl oL gd L1 ∧ RS w gx oX s2 m ∧ Rg w gy oY gx L2 ∧ (∀ k, oL k → ¬ oD k) ∧ (∀ k, oY k → ¬ oX k) ∧ (∀ k, oX k ∨ oY k → ¬ (oD k ∨ oL k)) ∧ ∀ k, oD k ∨ oL k ∨ oX k ∨ oY k → w0.heap.size ≤ k
  low : Below w0.heap.size w0 w
set_option maxRecDepth 100000 in
theorem LL.below {w0 w w' : World} {gd gl gx gy : Nat} {s1 : DS} {L1 : LS} {s2 : DS} {m : Nat} {L2 : LS} (h : LL w0 w gd gl gx gy s1 L1 s2 m L2) (hb : Below w.heap.size w w') : LL w0 w' gd gl gx gy s1 L1 s2 m L2 := by
  obtain ⟨oD, oL, oX, oY, h1, h2, h3, h4, h5⟩ := h.ex
  exact ⟨⟨oD, oL, oX, oY, h1.below hb, h2.below hb, h3.below hb, h4.below hb, h5⟩, bstep h.low hb⟩
set_option maxRecDepth 100000 in
theorem ll_append (w0 w : World) (gd gl gx gy : Nat) (s1 : DS) (L1 : LS) (s2 : DS) (m : Nat) (L2 : LS) (a : Option Addr) (len cap : Nat) (b : List Int) (h : LL w0 w gd gl gx gy s1 L1 s2 m L2) (hbt : Bts w a len cap b) (hfar : 0 < len → ∀ p, a = some p → p.block < w0.heap.size) (hO : s1.O.length ≤ 900000) :
    Calls Tryz.prog 45 #[.pointer (some ⟨gl, 0, none⟩), .slice a len cap] w fun e w' => e = .returned (.int .i64 (apE s1 L1 b)) ∧ LL w0 w' gd gl gx gy (apS s1 L1 b) (apL s1 L1 b) s2 m L2 := by
  obtain ⟨oD, oL, oX, oY, h1, h2, h3, h4, h5, h6, h7, h8⟩ := h.ex
  refine (append_any gl gd oD oL s1 L1 a len cap b w h1 h2 hbt (fun hp p e ho => by have := hfar hp p e; have := h8 _ (.inl ho); omega) h5 hO).mono ?_
  rintro e w' ⟨rfl, pD, pL, k1, k2, k3⟩
  have hs := h.low.size
  have hnew : ∀ k, pD k ∨ pL k → (oD k ∨ oL k) ∨ w.heap.size ≤ k := fun k hk => by
    rcases hk with hk | hk
    · rcases k3.n1 k hk with h9 | h9
      · exact .inl (.inl h9)
      · exact .inr h9.1
    · rcases k3.n2 k hk with h9 | h9
      · exact .inl (.inr h9)
      · exact .inr h9.1
  refine ⟨rfl, ⟨pD, pL, oX, oY, k1, k2, h3.kept k3.kept (fun k hk => h7 k (.inl hk)), h4.kept k3.kept (fun k hk => h7 k (.inr hk)), k3.dj, h6, fun k hk hn => ?_, fun k hk => ?_⟩, h.low.trans (k3.kept.low (fun k hk => h8 k (by rcases hk with hk | hk; exact .inl hk; exact .inr (.inl hk))) hs)⟩
  · rcases hnew k hn with h9 | h9
    · exact h7 k hk h9
    · rcases hk with hk | hk
      · have := h3.lt k hk; omega
      · have := h4.lt k hk; omega
  · have h10 : (pD k ∨ pL k) ∨ (oX k ∨ oY k) := by
      rcases hk with hk | hk | hk
      · exact .inl (.inl hk)
      · exact .inl (.inr hk)
      · exact .inr hk
    rcases h10 with hk | hk
    · rcases hnew k hk with h9 | h9
      · exact h8 k (by rcases h9 with h9 | h9; exact .inl h9; exact .inr (.inl h9))
      · omega
    · exact h8 k (.inr (.inr hk))
set_option maxRecDepth 100000 in
theorem ll_rappend (w0 w : World) (gd gl gx gy : Nat) (s1 : DS) (L1 : LS) (s2 : DS) (m : Nat) (L2 : LS) (a : Option Addr) (len cap : Nat) (b : List Int) (h : LL w0 w gd gl gx gy s1 L1 s2 m L2) (hok : s2.Ok) (hbt : Bts w a len cap b) (hfar : 0 < len → ∀ p, a = some p → p.block < w0.heap.size) (hfd : L2.failed = false) (hm : m + ns (20 + len) ≤ 990) :
    Calls Tryz.prog 47 #[.pointer (some ⟨gy, 0, none⟩), .slice a len cap] w fun e w' => e = .returned (.int .i64 (apE s2 L2 b)) ∧ LL w0 w' gd gl gx gy s1 L1 (apS s2 L2 b) (if L2.go s2 b = true then m + ns (20 + len) + 1 else m) (apL s2 L2 b) := by
  obtain ⟨oD, oL, oX, oY, h1, h2, h3, h4, h5, h6, h7, h8⟩ := h.ex
  refine (rappend_any gy gx oX oY s2 m L2 a len cap b w h3 hok h4 hbt hfd (fun hp p e ho => by have := hfar hp p e; have := h8 _ (.inr (.inr (.inl ho))); omega) h6 hm).mono ?_
  rintro e w' ⟨rfl, pX, pY, k1, k2, k3⟩
  have hs := h.low.size
  have hnew : ∀ k, pX k ∨ pY k → (oX k ∨ oY k) ∨ w.heap.size ≤ k := fun k hk => by
    rcases hk with hk | hk
    · rcases k3.n1 k hk with h9 | h9
      · exact .inl (.inl h9)
      · exact .inr h9.1
    · rcases k3.n2 k hk with h9 | h9
      · exact .inl (.inr h9)
      · exact .inr h9.1
  refine ⟨rfl, ⟨oD, oL, pX, pY, h1.kept k3.kept (fun k hk hn => h7 k hn (.inl hk)), h2.kept k3.kept (fun k hk hn => h7 k hn (.inr hk)), k1, k2, h5, k3.dj, fun k hk hn => ?_, fun k hk => ?_⟩, h.low.trans (k3.kept.low (fun k hk => h8 k (.inr (.inr hk))) hs)⟩
  · rcases hnew k hk with h9 | h9
    · exact h7 k h9 hn
    · rcases hn with hn | hn
      · have := h1.lt k hn; omega
      · have := h2.lt k hn; omega
  · have h10 : (oD k ∨ oL k) ∨ (pX k ∨ pY k) := by
      rcases hk with hk | hk | hk
      · exact .inl (.inl hk)
      · exact .inl (.inr hk)
      · exact .inr hk
    rcases h10 with hk | hk
    · exact h8 k (by rcases hk with hk | hk; exact .inl hk; exact .inr (.inl hk))
    · rcases hnew k hk with h9 | h9
      · exact h8 k (.inr (.inr h9))
      · omega
set_option maxRecDepth 100000 in
/-- a text more, or not: the disk never fails -/
theorem calm_append {s : DS} {T : List (List Int)} {b : List Int} {m len k : Nat} (h : Rest s T) (ha : s.armed = false) (hb : Byt b) (hl : b.length = len) (hm : m ≤ 200 + (FrS 0 T).length + k) :
    ∃ T2, Rest (apS s (lgs T) b) T2 ∧ (apS s (lgs T) b).armed = false ∧ (apS s (lgs T) b).F.length = s.F.length ∧ apL s (lgs T) b = lgs T2 ∧ (if (lgs T).go s b = true then m + ns (20 + len) + 1 else m) ≤ 200 + (FrS 0 T2).length + (k + 1) := by
  obtain ⟨h1, h2, h3⟩ := ap_cases h hb
  cases hg : (lgs T).go s b with
  | false =>
    obtain ⟨e1, e2⟩ := ap_no hg
    rw [e1, e2]
    exact ⟨T, h, ha, rfl, rfl, by rw [if_neg (by decide)]; omega⟩
  | true =>
    rcases h3 with ⟨g1, g2, g3, _, _⟩ | ⟨_, g2, _⟩ | ⟨g1, g2, g3, _⟩
    · have h0 : ((lgs T).wr s b).2 = 0 := by rw [← (ap_yes hg).1]; exact g1
      have e := ap_ok hg h0
      rw [g3] at e
      have e2 : (FrS 0 (T ++ [b])).length = (FrS 0 T).length + ns (20 + b.length) := congrArg LS.next e
      exact ⟨T ++ [b], g2, h1 ha, h2, g3, by rw [if_pos rfl, e2, hl]; omega⟩
    · rw [ha] at g2; cases g2
    · exfalso
      by_cases h0 : ((lgs T).wr s b).2 = 0
      · have e := ap_ok hg h0
        rw [g3] at e
        have e2 : T.length = (T ++ [b]).length := congrArg (fun L : LS => L.T.length) e
        rw [List.length_append] at e2
        simp at e2
      · have e := ap_er hg h0
        rw [g3] at e
        have e2 : false = true := congrArg LS.failed e
        cases e2
set_option maxRecDepth 100000 in
theorem rest_le {s : DS} {T : List (List Int)} (h : Rest s T) : (FrS 0 T).length ≤ s.F.length := by
  obtain ⟨z, hz⟩ := h.f
  rw [hz, List.length_append]; omega
/-- two disks with the same texts -/
def LDP (w0 : World) (gd gx : Nat) (w' : World) : Prop := ∃ s' T' m' oD' oX', Dsk w' gd oD' s' ∧ RS w' gx oX' s' m' ∧ m' ≤ 500 ∧ Rest s' T' ∧ s'.F.length = 200 ∧ (∀ k, oX' k → ¬ oD' k) ∧ (∀ k, oD' k ∨ oX' k → w0.heap.size ≤ k) ∧ Below w0.heap.size w0 w'
set_option maxRecDepth 100000 in
set_option maxHeartbeats 4000000 in
set_option maxRecDepth 100000 in
theorem laid_any (w0 w : World) (gd gx : Nat) (oD oX : Nat → Prop) (s : DS) (aT : Option Addr) (nT cT : Nat) (TT : List (List Int)) (hD : Dsk w gd oD s) (hX : RS w gx oX s 0) (hr : Rest s []) (ha : s.armed = false) (hn : s.F.length = 200) (hdj : ∀ k, oX k → ¬ oD k) (hge : ∀ k, oD k ∨ oX k → w0.heap.size ≤ k) (hlow : Below w0.heap.size w0 w) (hT : Txs w0 aT nT cT TT) :
    Calls Tryz.prog 24 #[.pointer (some ⟨gd, 0, none⟩), .pointer (some ⟨gx, 0, none⟩), .slice aT nT cT] w fun e w' => e = .returned (.bool true) ∧ LDP w0 gd gx w' := by
  have HRS0 := Bx.mk hr
  have HX0 := Bx.mk hX
  have HOKs : Bx s.Ok := ⟨hD.ok⟩
  have HTX := Bx.mk hT
  have HGE := Bx.mk hge
  have HDJ := Bx.mk hdj
  have HLW := Bx.mk hlow
  have HWO := Bx.mk (wopen_rest gd oD s w [] hD hr)
  have HOX : Bx (∀ k, oX k → k < w.heap.size) := ⟨hX.lt⟩
  have hcl := hT.le_cap
  have hcm := hT.cap_le
  unfold maxLen at hcm
  clear hD hX hT hge hdj hlow
  go_enter Tryz.func24, Tryz.ntmps24
  go_wp2_with fail
  refine HWO.out.mono ?_
  rintro e w1 ⟨gl, rfl, pD, pL, hD1, hd1, hL1, hlg1, hld1⟩
  have HD1 := Bx.mk hD1
  have HL1 := Bx.mk hL1
  have HDI1 := Bx.mk hd1
  have HG1 := Bx.mk (And.intro hlg1 hld1)
  have HX1 : Bx (RS w1 gx oX s 0) := ⟨HX0.out.kept hd1.kept (fun k hk => HDJ.out k hk)⟩
  clear hD1 hd1 hL1 hlg1 hld1 HWO HX0
  go_wp2_with fail
  have hC2 := ropen10_any gx oX s 0 w1 HX1.out HOKs.out HRS0.out.off (by rw [hn]; decide)
  refine hC2.mono ?_
  rintro e w2 ⟨_, h2⟩
  obtain ⟨pX, h3, h4, h5⟩ := h2 [] (FrS 0 []).length (HRS0.out.rd HOKs.out)
  obtain ⟨z1, z2⟩ := wip_rest HRS0.out
  rw [z1] at h5
  rw [z2, hn] at h3
  obtain ⟨gy, pY, rfl, h6, h7, h8⟩ : ∃ gy pY, e = .returned (.tuple #[.pointer (some ⟨gy, 0, none⟩), .int .i64 0]) ∧ Rg w2 gy pY gx (lgs []) ∧ (∀ k, pY k → w1.heap.size ≤ k) ∧ (∀ k, pY k → ¬ pX k) := by
    rcases h5 with ⟨_, gl, ownL, h6⟩ | ⟨h6, _⟩
    · exact ⟨gl, ownL, h6⟩
    · exact absurd rfl h6
  have HLL0 : Bx (LL w0 w2 gd gl gx gy s (lgs []) s 200 (lgs [])) := by
    have hs1 := HDI1.out.kept.size
    have hs2 := h4.kept.size
    have hl0 := HLW.out.size
    have hpX : ∀ k, pX k → oX k ∨ w1.heap.size ≤ k := fun k hk => by
      rcases h4.new k hk with h | h
      · exact .inl h
      · exact .inr h.1
    have hpD : ∀ k, pD k → oD k ∨ w.heap.size ≤ k := fun k hk => by
      rcases HDI1.out.new k hk with h | h
      · exact .inl h
      · exact .inr h.1
    have hxd : ∀ k, oX k → ¬ (pD k ∨ pL k) := fun k hk hh => by
      have hlt := HOX.out k hk
      rcases hh with hh | hh
      · rcases hpD k hh with h9 | h9
        · exact HDJ.out k hk h9
        · omega
      · have := HG1.out.1 k hh; omega
    have hdl : ∀ k, pD k ∨ pL k → k < w1.heap.size := fun k hh => by
      rcases hh with hh | hh
      · exact HD1.out.lt k hh
      · exact HL1.out.lt k hh
    refine ⟨⟨pD, pL, pX, pY, HD1.out.kept h4.kept (fun k hk ho => hxd k ho (.inl hk)), HL1.out.kept h4.kept (fun k hk ho => hxd k ho (.inr hk)), h3.le (by omega), h6, HG1.out.2, h8, fun k hk hh => ?_, fun k hk => ?_⟩, (HLW.out.trans (HDI1.out.kept.low (fun k hk => HGE.out k (.inl hk)) hl0)).trans (h4.kept.low (fun k hk => HGE.out k (.inr hk)) (by omega))⟩
    · have hlt := hdl k hh
      rcases hk with hk | hk
      · rcases hpX k hk with h9 | h9
        · exact hxd k h9 hh
        · omega
      · have := h7 k hk; omega
    · rcases hk with hk | hk | hk | hk
      · rcases hpD k hk with h9 | h9
        · exact HGE.out k (.inl h9)
        · omega
      · have := HG1.out.1 k hk; omega
      · rcases hpX k hk with h9 | h9
        · exact HGE.out k (.inr h9)
        · omega
      · have := h7 k hk; omega
  have HOA : Bx (s.armed = false) := ⟨ha⟩
  have HFN : Bx (s.F.length = 200) := ⟨hn⟩
  clear hC2 h2 h3 h4 h5 h6 h7 h8 z1 z2 HD1 HL1 HDI1 HG1 HX1 hr ha hn
  go_wp2_with fail
  go_loopw [11] (fun i wr => ∃ (k : Nat) (s : DS) (T : List (List Int)) (m : Nat), k ≤ nT ∧ k ≤ 20 ∧ i = .int .i64 k ∧ Bx (LL w0 wr gd gl gx gy s (lgs T) s m (lgs T)) ∧ Bx (Rest s T) ∧ Bx (s.armed = false) ∧ Bx (s.F.length = 200) ∧ Bx (m ≤ 200 + (FrS 0 T).length + k)) (fun i _ => nT - (intOf i).toNat)
  case atStart => exact ⟨0, s, [], 200, Nat.zero_le _, Nat.zero_le _, rfl, HLL0, HRS0, HOA, HFN, ⟨by omega⟩⟩
  case round =>
    clear HLL0 HOA HFN HOKs HRS0
    obtain ⟨k, s, T, m, hk, hk20, rfl, HLL, HRS, HOA, HFN, HMB⟩ := hrel
    have hmb : m ≤ 420 := by have h1 := HMB.out; have h2 := rest_le HRS.out; rw [HFN.out] at h2; omega
    by_cases hgo : k < nT ∧ k < 20
    · have hkI : (k : Int) < (nT : Int) := by omega
      have hkJ : (k : Int) < 20 := by omega
      obtain ⟨bT, oT, rfl, hbl, hc⟩ := HTX.out.spot (by omega)
      obtain ⟨ai, li, ci, hcell, hbt⟩ := hc k hgo.1
      generalize TT.getD k [] = tb at hbt
      have HTB : Bx (∀ W, Below w0.heap.size w0 W → Bts W ai li ci tb) := ⟨fun W hW => hbt.below hW⟩
      have HTC : Bx (∀ W, Below w0.heap.size w0 W → W.cell? ⟨bT, oT + k, none⟩ = some (.slice ai li ci)) := ⟨fun W hW => (hW.cell (p := ⟨bT, oT + k, none⟩) hbl).trans hcell⟩
      have HTF : Bx (0 < li → ∀ p, ai = some p → p.block < w0.heap.size) := ⟨fun hp p e => hbt.lt hp e⟩
      have HTL : Bx (tb.length = li ∧ Byt tb) := ⟨hbt.len_eq, hbt.byt⟩
      have HOKS : Bx s.Ok := ⟨by obtain ⟨_, _, _, _, h1, _⟩ := HLL.out.ex; exact h1.ok⟩
      have HOO : Bx (s.O.length ≤ 900000) := ⟨by rw [HRS.out.o]; exact Nat.zero_le _⟩
      have hk : wr.drew.cell? ⟨bT, oT + k, none⟩ = some (.slice ai li ci) := HTC.out wr HLL.out.low
      replace HLL : Bx (LL w0 wr.drew gd gl gx gy s (lgs T) s m (lgs T)) := ⟨HLL.out.below (Below.refl _ _).drew⟩
      clear hbt hcell hc
      go_wp2_with fail
      refine wp_region_held_drew (S := fun W => W.cell? ⟨bT, oT + k, none⟩ = some (.slice ai li ci)) (by kernel_rfl) hk (fun _ => ?_)
      generalize wr.drew = wd at hk HLL ⊢
      refine wpAnyH_take (i := 0) (oi := ⟨some 38, .move (.tmp 7), 81, "law.go:83", #[], none⟩) (v := ?vlai81) rfl (by kernel_rfl) (by kernel_rfl) (by kernel_rfl) (fun _ _ _ h => h) (Or.inl ⟨by rfl, ?ylai81⟩) hk ?rlai81
      case ylai81 => (intro w hSw; (try dsimp only at hSw); go_simp; first | done | with_reducible rfl)
      simp only [Act.put, List.setIfInBounds_toArray, List.set_cons_zero, List.set_cons_succ]
      refine wpAnyH_take (i := 1) (oi := ⟨some 39, .move (.tmp 2), 57, "law.go:83", #[], none⟩) (v := ?vlai82) rfl (by kernel_rfl) (by kernel_rfl) (by kernel_rfl) (fun _ _ _ h => h) (Or.inl ⟨by rfl, ?ylai82⟩) hk ?rlai82
      case ylai82 => (intro w hSw; (try dsimp only at hSw); go_simp; first | done | with_reducible rfl)
      simp only [Act.put, List.setIfInBounds_toArray, List.set_cons_zero, List.set_cons_succ]
      refine wpAnyH_take (i := 2) (oi := ⟨some 40, .move (.tmp 11), 3, "law.go:83", #[], none⟩) (v := ?vlai83) rfl (by kernel_rfl) (by kernel_rfl) (by kernel_rfl) (fun _ _ _ h => h) (Or.inl ⟨by rfl, ?ylai83⟩) hk ?rlai83
      case ylai83 => (intro w hSw; (try dsimp only at hSw); go_simp; first | done | with_reducible rfl)
      simp only [Act.put, List.setIfInBounds_toArray, List.set_cons_zero, List.set_cons_succ]
      refine wpAnyH_take (i := 3) (oi := ⟨some 41, .indexAddr 57 (.tmp 39) (.tmp 40), 0, "law.go:83", #[⟨1, .data⟩, ⟨2, .data⟩], none⟩) (v := ?vlai84) rfl (by kernel_rfl) (by kernel_rfl) (by kernel_rfl) (fun _ _ _ h => h) (Or.inl ⟨by rfl, ?ylai84⟩) hk ?rlai84
      case ylai84 => (intro w hSw; (try dsimp only at hSw); go_simp; first | done | with_reducible rfl)
      simp only [Act.put, List.setIfInBounds_toArray, List.set_cons_zero, List.set_cons_succ]
      refine wpAnyH_take (i := 4) (oi := ⟨some 42, .load 46 (.tmp 41), 46, "law.go:83", #[⟨3, .data⟩], none⟩) (v := ?vlai85) rfl (by kernel_rfl) (by kernel_rfl) (by kernel_rfl) (fun _ _ _ h => h) (Or.inl ⟨by rfl, ?ylai85⟩) hk ?rlai85
      case ylai85 => (intro w hSw; have hcw := hSw; clear hSw; go_simp; first | done | with_reducible rfl)
      simp only [Act.put, List.setIfInBounds_toArray, List.set_cons_zero, List.set_cons_succ]
      refine wpAnyH_take (i := 7) (oi := ⟨some 45, .move (.tmp 9), 69, "law.go:83", #[], none⟩) (v := ?vlai86) rfl (by kernel_rfl) (by kernel_rfl) (by kernel_rfl) (fun _ _ _ h => h) (Or.inl ⟨by rfl, ?ylai86⟩) hk ?rlai86
      case ylai86 => (intro w hSw; (try dsimp only at hSw); go_simp; first | done | with_reducible rfl)
      simp only [Act.put, List.setIfInBounds_toArray, List.set_cons_zero, List.set_cons_succ]
      refine wpAnyH_take (i := 8) (oi := ⟨some 46, .move (.tmp 2), 57, "law.go:83", #[], none⟩) (v := ?vlai87) rfl (by kernel_rfl) (by kernel_rfl) (by kernel_rfl) (fun _ _ _ h => h) (Or.inl ⟨by rfl, ?ylai87⟩) hk ?rlai87
      case ylai87 => (intro w hSw; (try dsimp only at hSw); go_simp; first | done | with_reducible rfl)
      simp only [Act.put, List.setIfInBounds_toArray, List.set_cons_zero, List.set_cons_succ]
      refine wpAnyH_take (i := 9) (oi := ⟨some 47, .move (.tmp 11), 3, "law.go:83", #[], none⟩) (v := ?vlai88) rfl (by kernel_rfl) (by kernel_rfl) (by kernel_rfl) (fun _ _ _ h => h) (Or.inl ⟨by rfl, ?ylai88⟩) hk ?rlai88
      case ylai88 => (intro w hSw; (try dsimp only at hSw); go_simp; first | done | with_reducible rfl)
      simp only [Act.put, List.setIfInBounds_toArray, List.set_cons_zero, List.set_cons_succ]
      refine wpAnyH_take (i := 10) (oi := ⟨some 48, .indexAddr 57 (.tmp 46) (.tmp 47), 0, "law.go:83", #[⟨8, .data⟩, ⟨9, .data⟩], none⟩) (v := ?vlai89) rfl (by kernel_rfl) (by kernel_rfl) (by kernel_rfl) (fun _ _ _ h => h) (Or.inl ⟨by rfl, ?ylai89⟩) hk ?rlai89
      case ylai89 => (intro w hSw; (try dsimp only at hSw); go_simp; first | done | with_reducible rfl)
      simp only [Act.put, List.setIfInBounds_toArray, List.set_cons_zero, List.set_cons_succ]
      refine wpAnyH_take (i := 11) (oi := ⟨some 49, .load 46 (.tmp 48), 46, "law.go:83", #[⟨10, .data⟩], none⟩) (v := ?vlai810) rfl (by kernel_rfl) (by kernel_rfl) (by kernel_rfl) (fun _ _ _ h => h) (Or.inl ⟨by rfl, ?ylai810⟩) hk ?rlai810
      case ylai810 => (intro w hSw; have hcw := hSw; clear hSw; go_simp; first | done | with_reducible rfl)
      simp only [Act.put, List.setIfInBounds_toArray, List.set_cons_zero, List.set_cons_succ]
      refine wpAnyH_ready (rs := [5]) (by decide +kernel) (by simp) ?_
      refine AllReadyH.cons (o := ⟨some 43, .call { callee := .value (.func 41), args := #[.tmp 42, .const (Value.int IntKind.i64 9000)], argTypes := #[46, 3] }, 46, "law.go:83", #[⟨4, .data⟩], none⟩) rfl (fun K hK => ?_) AllReadyH.nil
      go_simp
      refine (cut_any ai li ci 9000 tb _ (HTB.out _ HLL.out.low) (by decide)).mono ?_
      rintro e1 w8 ⟨⟨l0, rfl, hb0⟩, rfl⟩
      have HB0 := Bx.mk hb0
      have hl0 : l0 ≤ li := by rw [← hb0.len_eq, List.length_take, HTL.out.1]; omega
      clear hb0
      refine hK.out _ _ hk (fun _ => ?_)
      clear hK K
      try simp only [Act.put, List.setIfInBounds_toArray, List.set_cons_zero, List.set_cons_succ]
      refine wpAnyH_ready (rs := [6]) (by decide +kernel) (by simp) ?_
      refine AllReadyH.cons (o := ⟨some 44, .call { callee := .value (.func 45), args := #[.tmp 38, .tmp 43], argTypes := #[81, 46] }, 26, "law.go:83", #[⟨0, .data⟩, ⟨5, .data⟩, ⟨5, .chain⟩], none⟩) rfl (fun K hK => ?_) AllReadyH.nil
      go_simp
      refine (ll_append w0 _ gd gl gx gy s (lgs T) s m (lgs T) ai l0 ci (tb.take 9000) HLL.out HB0.out (fun hp p e => HTF.out (by omega) p e) HOO.out).mono ?_
      rintro e1 w9 ⟨rfl, hll9⟩
      have HL9 := Bx.mk hll9
      replace hk : w9.cell? ⟨bT, oT + k, none⟩ = some (.slice ai li ci) := HTC.out w9 hll9.low
      clear hll9 HLL
      refine hK.out _ _ hk (fun _ => ?_)
      clear hK K
      try simp only [Act.put, List.setIfInBounds_toArray, List.set_cons_zero, List.set_cons_succ]
      refine wpAnyH_ready (rs := [12]) (by decide +kernel) (by simp) ?_
      refine AllReadyH.cons (o := ⟨some 50, .call { callee := .value (.func 41), args := #[.tmp 49, .const (Value.int IntKind.i64 9000)], argTypes := #[46, 3] }, 46, "law.go:83", #[⟨11, .data⟩, ⟨6, .chain⟩], none⟩) rfl (fun K hK => ?_) AllReadyH.nil
      go_simp
      refine (cut_any ai li ci 9000 tb _ (HTB.out _ HL9.out.low) (by decide)).mono ?_
      rintro e1 w8 ⟨⟨l1, rfl, hb1⟩, rfl⟩
      have HB1 := Bx.mk hb1
      have hl1 : l1 ≤ 9000 ∧ l1 ≤ li := by rw [← hb1.len_eq, List.length_take, HTL.out.1]; omega
      have hns1 : ns (20 + l1) ≤ 142 := by unfold ns; omega
      clear hb1
      refine hK.out _ _ hk (fun _ => ?_)
      clear hK K
      try simp only [Act.put, List.setIfInBounds_toArray, List.set_cons_zero, List.set_cons_succ]
      refine wpAnyH_ready (rs := [13]) (by decide +kernel) (by simp) ?_
      refine AllReadyH.cons (o := ⟨some 51, .call { callee := .value (.func 47), args := #[.tmp 45, .tmp 50], argTypes := #[69, 46] }, 3, "law.go:83", #[⟨7, .data⟩, ⟨12, .data⟩, ⟨12, .chain⟩], none⟩) rfl (fun K hK => ?_) AllReadyH.nil
      go_simp
      refine (ll_rappend w0 _ gd gl gx gy _ _ s m (lgs T) ai l1 ci (tb.take 9000) HL9.out HOKS.out HB1.out (fun hp p e => HTF.out (by omega) p e) rfl (by omega)).mono ?_
      rintro e1 w10 ⟨rfl, hll10⟩
      have HL10 := Bx.mk hll10
      replace hk : w10.cell? ⟨bT, oT + k, none⟩ = some (.slice ai li ci) := HTC.out w10 hll10.low
      clear hll10 HL9
      refine hK.out _ _ hk (fun _ => ?_)
      clear hK K
      try simp only [Act.put, List.setIfInBounds_toArray, List.set_cons_zero, List.set_cons_succ]
      refine wpAnyH_take (i := 14) (oi := ⟨some 52, .binOp .neq 3 (.tmp 44) (.tmp 51) 3, 4, "law.go:83", #[⟨6, .data⟩, ⟨13, .data⟩], none⟩) (v := ?vlai811) rfl (by kernel_rfl) (by kernel_rfl) (by kernel_rfl) (fun _ _ _ h => h) (Or.inl ⟨by rfl, ?ylai811⟩) hk ?rlai811
      case ylai811 => (intro w hSw; (try dsimp only at hSw); go_simp; first | done | with_reducible rfl)
      simp only [Act.put, List.setIfInBounds_toArray, List.set_cons_zero, List.set_cons_succ]
      refine wpAnyH_done (by decide +kernel) ?_ _
      obtain ⟨T2, c1, c2, c3, c4, c5⟩ := calm_append (k := k) HRS.out HOA.out HB1.out.byt HB1.out.len_eq HMB.out
      rw [c4] at HL10
      have HC1 := Bx.mk c1
      have HC2 := Bx.mk c2
      have HC3 : Bx ((apS s (lgs T) (tb.take 9000)).F.length = 200) := ⟨by rw [c3]; exact HFN.out⟩
      have HC5 := Bx.mk c5
      clear c1 c2 c3 c4 c5 hk HB0 HB1 HRS HOA HFN HMB HOKS HOO
      generalize apE s (lgs T) (tb.take 9000) = E
      generalize apS s (lgs T) (tb.take 9000) = s2 at HL10 HC1 HC2 HC3
      generalize (if (lgs T).go s (tb.take 9000) = true then m + ns (20 + l1) + 1 else m) = m2 at HL10 HC5
      go_wp2_with fail
      go_roundw
      case rel => exact ⟨k + 1, s2, T2, m2, by omega, by omega, by go_num, HL10, HC1, HC2, HC3, HC5⟩
      case measure => simp [intOf]; omega
    · have HF : Bx (LDP w0 gd gx wr) := by
        obtain ⟨qD, qL, qX, qY, h1, h2, h3, h4, h5, h6, h7, h8⟩ := HLL.out.ex
        exact ⟨s, T, m, qD, qX, h1, h3, by omega, HRS.out, HFN.out, fun k hk ho => h7 k (.inl hk) (.inl ho), fun k hk => h8 k (by rcases hk with hk | hk; exact .inl hk; exact .inr (.inr (.inl hk))), HLL.out.low⟩
      clear HLL HRS HOA HFN HMB
      by_cases h1 : k < nT
      · have hkI : (k : Int) < (nT : Int) := by omega
        have hkJ : ¬ (k : Int) < 20 := by omega
        go_wp2_with fail
        go_ret
        exact ⟨rfl, HF.out⟩
      · have hkI : ¬ (k : Int) < (nT : Int) := by omega
        go_wp2_with fail
        go_ret
        exact ⟨rfl, HF.out⟩
end Go.Proofs.YtjnjokbdoendkaaGreat
