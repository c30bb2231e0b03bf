/- For every slice of bytes and every int most the law ChunkSteps returns true and the slice reads as it did (P12.1): to bytes, one by one, a reader answers what the document says, and says what the document says behind each. No condition. -/
import Derived.Test.YtjlclgmbenhakaaRows
import Derived.Test.YtjlclgmbenhakaaCTwo
import Derived.Test.YtjlclgmbenhakaaCLives
import Derived.Test.YtjlclgmbenhakaaCut
import Derived.Test.YtjlclgmbenhakaaSame
import Derived.WalkKit
import Derived.ProofKit
import Derived.OpenShut
import Derived.ShutString
import Derived.ChangeOld
import Derived.Below
namespace Go.Proofs.Ytjlclgmbenhakaa.chunkSteps
open Go.ChangeShapes Go.WideShapes Go.ChangeAt Go.RowKit
open Go.ChangeMaps (open_string shut_string)
set_option linter.unusedVariables false

theorem own : ownKnob Try.prog.godebug = none := by kernel_rfl
theorem laidOut : laidOutB Try.prog = true := by kernel_rfl

/-- WHAT THE WALK IS TOLD OF A SLICE OF INTEGERS THAT CAME IN: it is nil; or it leads to a row of 'cap' cells, the numbers 'zs' (the first 'len' are its elements, the rest its spare room), each fitting its kind. -/
def IsRow (k : IntKind) (w : World) (a : Option Addr) (len cap : Nat) (zs : List Int) : Prop :=
  (a = none ∧ len = 0 ∧ cap = 0 ∧ zs = []) ∨
  ∃ x, a = some x ∧ len ≤ cap ∧ cap ≤ maxLen ∧ zs.length = cap ∧ (∀ i, i < zs.length → w.cell? (x.add i) = some (.int k (zs.getD i 0))) ∧ ∀ n ∈ zs, (Lit.int k n).wf = true

theorem ends_cells {w : World} {base n : Nat} {v : Value} {l : List Value} (h : w.ownsRow base 5 1 v n l) (k : Nat) (hk : k < n) : ∃ G c u, v = .slice (some ⟨G, 0, none⟩) n c ∧ w.cell? ⟨G, k, none⟩ = some u ∧ w.frozen? ⟨G, k, none⟩ = false ∧ base ≤ G := by
  rcases h.2 with ⟨_, h0⟩ | ⟨g, cap, cur, rfl, hb, hg, hnc, hcm, hcs, ht⟩
  · omega
  · have hkk : k < cur.size := by omega
    exact ⟨g, cap, cur[k], rfl, by rw [cell_of_row w g k cur _ (0, 0) hg]; simp [hkk], frozen_of_row _ _ k _ _ hg, hb⟩
/-! ### STEP 1: THE WALK: the Go text returns true, AND WRITES NOTHING THAT WAS THERE: 'Below w.heap.size w w'' (Derived/Below.lean: '.refl', '.alloc', '.drew', '.setCell' at a new block, '.trans'). Open each 'IsRow' by 'rcases' AHEAD of 'go_enter'; part every test ahead of the walk. -/
set_option maxHeartbeats 1000000 in
theorem walk (a0 : Option Addr) (len0 cap0 : Nat) (z0 : List Int) (a1 : Int) (w : World) (w0 : IsRow .u8 w a0 len0 cap0 z0) (w1 : (Lit.int .i64 a1).wf = true) :
    Calls Try.prog 4 #[.slice a0 len0 cap0, .int .i64 a1] w fun e w' => e = .returned (.bool true) ∧ Below w.heap.size w w' := by
  have hrow : Bts w a0 len0 cap0 (z0.take len0) := Bts.of_row w0
  generalize z0.take len0 = l at hrow
  clear w0
  go_enter Try.func4, Try.ntmps4
  go_wp2_with fail
  refine (cut_any a0 len0 cap0 150 l _ hrow (by decide)).mono ?_
  rintro e w' ⟨⟨len, rfl, hl⟩, rfl⟩
  have hlen : len ≤ 150 := by have := hl.len_eq; rw [List.length_take] at this; omega
  generalize l.take 150 = b at hl
  have HL := Bx.mk hl
  have HBY : Hid (Byt b) := hl.byt
  clear hrow hl
  by_cases hx : a1 < 0 ∨ 2048 < a1
  · go_wp2_with fail
    refine (cnew_bad a1 _ hx).mono ?_
    rintro e w' ⟨rfl, rfl⟩
    by_cases h1 : a1 < 0
    · have g1 : decide (a1 < 0) = true := by simpa using h1
      clear hx h1
      go_wp2_with fail
      refine (lives_any _).mono ?_
      rintro e w6 ⟨rfl, hb6⟩
      have HFIN := Bx.mk hb6
      clear hb6
      go_wp2
      go_ret
      exact ⟨rfl, HFIN.out⟩
    · have g1 : decide (a1 < 0) = false := by simpa using h1
      have g2 : decide (a1 > 2048) = true := by rcases hx with h | h; exact absurd h h1; simpa using h
      clear hx h1
      go_wp2_with fail
      refine (lives_any _).mono ?_
      rintro e w6 ⟨rfl, hb6⟩
      have HFIN := Bx.mk hb6
      clear hb6
      go_wp2
      go_ret
      exact ⟨rfl, HFIN.out⟩
  · obtain ⟨m, hm⟩ : ∃ m : Nat, a1 = (m : Int) := ⟨a1.toNat, by omega⟩
    have hm2 : m ≤ 2048 := by omega
    have g1 : decide ((m : Int) < 0) = false := by simp
    have g2 : decide ((m : Int) > 2048) = false := by simp; omega
    subst hm
    clear hx
    go_wp2_with fail
    refine (cnew_any (m : Int) m _ rfl hm2).mono ?_
    rintro e w1 ⟨rfl, hr1, hb1⟩
    have hbA : Below w1.heap.size w1 (w1.alloc (.cells #[.int .i64 (m : Int), .slice none 0 0, .bool false] 38)) := (Below.refl _ _).alloc (Nat.le_refl _) _
    have hgl := hr1.lt _ hr1.og
    have HT : Bx (TwoC w (w1.alloc (.cells #[.int .i64 (m : Int), .slice none 0 0, .bool false] 38)) w.heap.size w1.heap.size m (fun k => k = w.heap.size) (fun k => k = w1.heap.size) ⟨0, 0, []⟩ 0) :=
      ⟨hr1.below hbA, ⟨hm2, [], false, .slice none 0 0, ⟨Byt.nil, rfl, fun k hk => by rw [hk]; simp, heap_alloc_new w1 _, World.ownsRow_nil _ _ _ _, fun k hk => by cases hk⟩, XI.new m, Nat.le_refl _⟩, fun k h1 h2 => by rw [h1] at h2; omega, fun k hk => by
        have := hb1.size
        rcases hk with hk | hk
        · rw [hk]; exact Nat.le_refl _
        · rw [hk]; exact this, bstep hb1 hbA⟩
    obtain ⟨gx, hgx⟩ : ∃ x, x = w1.heap.size := ⟨_, rfl⟩
    obtain ⟨g, hg⟩ : ∃ x, x = w.heap.size := ⟨_, rfl⟩
    have HGX := Bx.mk hgx
    have HG := Bx.mk hg
    rw [← HG.out, ← HGX.out] at HT
    rw [← HG.out]
    clear hr1 hb1 hbA hgl hgx hg
    go_wp2
    rw [← HGX.out]
    generalize w1.alloc (.cells #[.int .i64 (m : Int), .slice none 0 0, .bool false] 38) = wA at HT ⊢
    clear g1 g2 HGX
    go_loopw [8] (fun i wr => ∃ (k : Nat) (own1 own2 : Nat → Prop) (s : CS) (N : Nat), k ≤ len ∧ N ≤ k ∧ i = .int .i64 k ∧ Bx (TwoC w wr g gx m own1 own2 s N)) (fun i _ => len - (intOf i).toNat)
    case atStart => exact ⟨0, _, _, _, 0, Nat.zero_le _, Nat.le_refl _, rfl, HT⟩
    case round =>
      clear HT
      obtain ⟨k, own1, own2, s, N, hk, hN, rfl, HS⟩ := hrel
      obtain ⟨wo, hwo⟩ : ∃ wo, wo = wr := ⟨_, rfl⟩
      subst hwo
      by_cases hlt : k < len
      · have hkI : (k : Int) < (len : Int) := by omega
        have hbt := HL.out.below HS.out.bel
        obtain ⟨bb, off, rfl, hbl, hc⟩ := HL.out.spot (by omega)
        have HCE : Bx (∀ W, Below w.heap.size w W → W.cell? ⟨bb, off + k, none⟩ = some (.int .u8 (b.getD k 0))) := ⟨fun W hW => (hW.cell (p := ⟨bb, off + k, none⟩) hbl).trans (hc k hlt)⟩
        have hbd := HBY.out.getD k
        generalize b.getD k 0 = C at HCE hbd
        have hcell := HCE.out _ HS.out.bel
        clear hc hbt
        go_wp2_with fail
        refine (cput_any g own1 m s C _ HS.out.rd hbd).mono ?_
        rintro e w2 ⟨rfl, o1, hr2, hd2⟩
        have HX2 := Bx.mk (HS.out.left hd2)
        have HR2 := Bx.mk hr2
        have HD2 := Bx.mk hd2
        have hcell2 := HCE.out _ (HS.out.bel.trans (hd2.kept.low (fun k hk => HS.out.lo k (.inl hk)) HS.out.bel.size))
        clear hr2 hd2 hcell
        go_wp2_with fail
        refine (xput_any gx own2 m N s C _ HX2.out (by omega) hbd).mono ?_
        rintro e w3 ⟨rfl, o2, hx3, hd3⟩
        have HS3 := Bx.mk (HS.out.both HD2.out HR2.out hd3 hx3)
        generalize ptS m s C = s3 at HS3
        generalize ptD m s C = D
        generalize (stp m s C).2 = E
        have q1 : (D != D) = false := by simp
        have q2 : (E != E) = false := by simp
        clear hx3 hd3 HX2 HR2 HD2 hcell2 HCE HS
        go_wp2_with fail
        refine (cbody_any g o1 m s3 _ HS3.out.rd).mono ?_
        rintro e w4 ⟨v4, rfl, ho4, hb4⟩
        obtain ⟨a4, c4, hv4⟩ := own_sl ho4
        subst hv4
        have HO4 := Bx.mk ho4
        have HB4 := Bx.mk hb4
        clear ho4 hb4 q1 q2
        go_wp2_with fail
        refine (xbody_any gx o2 m (N + 1) s3 _ (HS3.out.xd.below HB4.out) (by omega)).mono ?_
        rintro e w5 ⟨v5, rfl, ho5, hb5⟩
        have HBYT : Bx (Byt s3.body) := ⟨HS3.out.rd.1.byt⟩
        obtain ⟨a5, c5, hv5, hq5⟩ := Bts.of_owns ho5 HBYT.out
        subst hv5
        obtain ⟨a6, c6, hv6, hq6⟩ := Bts.of_owns (owns_below HO4.out hb5) HBYT.out
        cases hv6
        have HSM := Bx.mk (same_yes a4 a5 _ _ c4 c5 _ _ hq6 hq5)
        have HO5 := Bx.mk (owns_below HO4.out hb5)
        have HB5 := Bx.mk (bstep HB4.out hb5)
        obtain ⟨n4, hn4⟩ : ∃ n, n = s3.body.length := ⟨_, rfl⟩
        rw [← hn4] at HSM HO5 ⊢
        have hn5 : n4 ≤ 2048 := by rw [hn4]; exact Nat.le_trans HS3.out.rd.1.b HS3.out.rd.1.m
        clear ho5 hb5 hq5 hq6 HO4 HB4 hn4
        go_wp2_with fail
        refine HSM.out.mono ?_
        rintro e w6 ⟨rfl, q, hw6⟩
        have HO6 : Bx (w6.ownsRow w3.heap.size 5 1 (.slice a4 n4 c4) n4 (bv s3.body)) := ⟨by rw [hw6]; exact HO5.out⟩
        have HB6 : Bx (Below w3.heap.size w3 w6) := ⟨by rw [hw6]; exact below_drewN HB5.out q⟩
        clear hw6 HSM HO5 HB5
        go_wp2
        go_loopw [14] (fun i wq => ∃ (j : Nat) (xs : List Value), j ≤ n4 ∧ i = .int .i64 j ∧ Bx (wq.ownsRow w3.heap.size 5 1 (.slice a4 n4 c4) n4 xs) ∧ Bx (Below w3.heap.size w3 wq)) (fun i _ => n4 - (intOf i).toNat)
        case atStart => exact ⟨0, _, Nat.zero_le _, rfl, HO6, HB6⟩
        case round =>
          clear HO6 HB6
          obtain ⟨j, xs, hj, rfl, HO, HB⟩ := hrel
          by_cases hjl : j < n4
          · have hjI : (j : Int) < (n4 : Int) := by omega
            obtain ⟨G, c, u, hv, hce, hfr, hG⟩ := ends_cells HO.out j hjl
            obtain ⟨rfl, rfl⟩ : a4 = some ⟨G, 0, none⟩ ∧ c4 = c := by cases hv; exact ⟨rfl, rfl⟩
            have HON := Bx.mk (HO.out.stored j (.int .u8 7)).1
            have HBN : Bx (Below w3.heap.size w3 (wr.setCell ⟨G, j, none⟩ (.int .u8 7))) := ⟨HB.out.setCell (p := ⟨G, j, none⟩) hG _⟩
            clear hv HO HB
            go_wp2
            go_roundw
            case rel => exact ⟨j + 1, _, by omega, by go_num, HON, HBN⟩
            case measure => simp [intOf]; omega
          · have hjI : ¬ (j : Int) < (n4 : Int) := by omega
            go_wp2
            go_roundw
            case rel => exact ⟨k + 1, o1, o2, s3, N + 1, by omega, by omega, by go_num, ⟨HS3.out.below HB.out⟩⟩
            case measure => simp [intOf]; omega
      · have hkI : ¬ (k : Int) < (len : Int) := by omega
        go_wp2_with fail
        refine (cbody_any g own1 m s _ HS.out.rd).mono ?_
        rintro e w4 ⟨v4, rfl, ho4, hb4⟩
        have HO4 := Bx.mk ho4
        have HB4 := Bx.mk hb4
        clear ho4 hb4
        go_wp2_with fail
        refine (xbody_any gx own2 m N s _ (HS.out.xd.below HB4.out) (by omega)).mono ?_
        rintro e w5 ⟨v5, rfl, ho5, hb5⟩
        have HBYT : Bx (Byt s.body) := ⟨HS.out.rd.1.byt⟩
        obtain ⟨a5, c5, hv5, hq5⟩ := Bts.of_owns ho5 HBYT.out
        subst hv5
        obtain ⟨a4, c4, hv4, hq4⟩ := Bts.of_owns (owns_below HO4.out hb5) HBYT.out
        subst hv4
        have HSM := Bx.mk (same_yes a4 a5 _ _ c4 c5 _ _ hq4 hq5)
        have HB5 := Bx.mk (bstep HS.out.bel (bstep HB4.out hb5))
        generalize s.body.length = n4 at HSM
        clear ho5 hb5 hq4 hq5 HO4 HB4
        go_wp2_with fail
        refine HSM.out.mono ?_
        rintro e w6 ⟨rfl, q, hw6⟩
        have HB6 : Bx (Below w.heap.size w w6) := ⟨by rw [hw6]; exact below_drewN HB5.out q⟩
        clear hw6 HSM HB5
        go_wp2_with fail
        refine (lives_any _).mono ?_
        rintro e w7 ⟨rfl, hb7⟩
        have HFIN := Bx.mk (bstep HB6.out hb7)
        clear hb7
        go_wp2
        go_ret
        exact ⟨rfl, HFIN.out⟩

/-! ### THE ROW's STEP: WRITTEN OUT: LEAVE IT -/
set_option maxRecDepth 100000 in
theorem lifted (os : Os) (started : os.Started) (H : Type) (enc : TypeId × Value → H) :
    ReturnsInHanded {} Try.checked os 4 .any (Rows.chunkStepsSpec.pre6 enc Try.prog Try.f4 Rows.chunkStepsRow.domain false) (Rows.chunkStepsSpec.post enc Try.prog Try.f4 false true false false) := by
  refine returnsInHanded_of_change (C := Try.checked) own started (by kernel_rfl) Try.func4
    (ChangeSpec.witness6 (enc := enc) (C := Try.checked) false ⟨#[], #[.slice none 0 0, .int .i64 0], []⟩ 8 (by kernel_rfl) (by kernel_rfl) (by kernel_rfl) (by kernel_rfl)) ?_
  intro W base args ds gs before hval0 hW hcnd _
  have hval : ∀ (j : Nat) t v, Try.f4.params[j]? = some t → args[j]? = some v → Value.okWide Try.prog W .any base t v := hval0
  have hW' := hW
  obtain ⟨p, q, hA0, hV, rfl, hfz, hnd⟩ := hW
  have hA : DataW.TrodAll enc Try.prog W 0 (fun _ => true) true Try.f4.params.toList args.toList ds p := hA0
  rw [Try.params4] at hA hval
  obtain ⟨v0, vs0, d0, ds0, p0, q0, hargs, rfl, rfl, h0, r0⟩ := trodAll_cons hA
  obtain ⟨v1, vs1, d1, ds1, p1, q1, rfl, rfl, rfl, h1, r1⟩ := trodAll_cons r0
  obtain ⟨rfl, rfl, rfl⟩ := trodAll_nil r1
  obtain rfl : args = #[v0, v1] := by cases args; simp_all
  obtain ⟨rfl, rfl⟩ := trodVars_none hV
  obtain ⟨a0, len0, cap0, rfl⟩ := okWide_slice Try.underlying22 (hval 0 22 v0 rfl rfl)
  have k0 := h0
  have lt0 : ∀ x ∈ p0, x.block < W.heap.size := by obtain ⟨m, hm⟩ := k0; exact DataW.trod_lt m _ _ _ hm
  obtain ⟨z0, w0⟩ : ∃ zs, IsRow .u8 W a0 len0 cap0 zs := by
    obtain ⟨fuel, hf⟩ := h0
    rcases open_ints Try.underlying22 Try.underlying5 (by kernel_rfl) hf with ⟨hcs, _⟩ | ⟨x, l, c, zs, hcs, _, hl, hm, hz, _, hcell, hwz⟩
    · simp [Value.cells] at hcs
      obtain ⟨rfl, rfl, rfl⟩ := hcs
      exact ⟨[], .inl ⟨rfl, rfl, rfl, rfl⟩⟩
    · simp [Value.cells] at hcs
      obtain ⟨rfl, rfl, rfl⟩ := hcs
      exact ⟨zs, .inr ⟨_, rfl, hl, hm, by simpa using hz, hcell, hwz⟩⟩
  obtain ⟨a1, rfl, rfl, rfl, w1⟩ := open_int Try.underlying3 (hval 1 3 v1 rfl rfl) h1
  clear hA0 hval0
  refine (walk a0 len0 cap0 z0 a1 W w0 w1).mono fun e W' ⟨he, bel⟩ => ?_
  subst he
  exact ⟨_, rfl, _, _, _, [], _, [], hW', trodAll_mk1 (shut_bool Try.underlying4 _), (trodAll_cons_mk (Below.trod laidOut (by kernel_rfl) (of_decide_eq_true (by kernel_rfl)) k0 bel lt0) (trodAll_cons_mk (shut_int Try.underlying3 w1) trodAll_mk0)), rfl, bel.frame _, fun h => by cases h⟩

theorem over : Rows.chunkStepsRow.holds Try.pinned (OpenSpec.ofChange Rows.chunkStepsSpec) :=
  OpenClaim.holds_of_wide 4 Try.f4 rfl rfl rfl rfl rfl rfl rfl ⟨rfl, rfl, rfl, rfl, rfl⟩ rfl rfl rfl rfl rfl (by kernel_rfl) Try.func4 (by kernel_rfl)
    (of_decide_eq_true (by kernel_rfl)) (by unfold Func.isWrapper; first | (rw [if_pos (by decide +kernel)]; kernel_rfl) | (rw [if_neg (by decide +kernel)]; exact ⟨rfl, rfl⟩))
    (fun os started H enc _ => lifted os started H enc)

/-- ████ THE STATEMENT ████ -/
theorem proved : Rows.ChunkStepsSaid := over
end Go.Proofs.Ytjlclgmbenhakaa.chunkSteps
namespace Go.Proofs.Ytjlclgmbenhakaa
theorem chunkSteps_holds : Rows.ChunkStepsSaid := chunkSteps.proved
#print axioms chunkSteps_holds
end Go.Proofs.Ytjlclgmbenhakaa
