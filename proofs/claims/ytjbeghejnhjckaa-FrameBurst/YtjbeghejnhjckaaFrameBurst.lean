/- For every uint64, two slices of bytes, every int and every uint32 the law FrameBurst returns true and the slices read as they did (P8.4): where at most 32 bits in a row of a frame are others nothing is read of it, whatever stands behind. No condition. -/
import Derived.Test.YtjbeghejnhjckaaRows
import Derived.Test.YtjbeghejnhjckaaFReadR
import Derived.Test.YtjbeghejnhjckaaFBurst
import Derived.Test.YtjbeghejnhjckaaCut
import Derived.Test.YtjbeghejnhjckaaSame
import Derived.Test.YtjbeghejnhjckaaLeast
import Derived.WalkKit
import Derived.ProofKit
import Derived.OpenShut
import Derived.ShutString
import Derived.ChangeOld
import Derived.Below
namespace Go.Proofs.Ytjbeghejnhjckaa.frameBurst
open Go.ChangeShapes Go.WideShapes Go.ChangeAt Go.RowKit
open Go.ChangeMaps (open_string shut_string)
set_option linter.unusedVariables false

theorem own : ownKnob Try.prog.godebug = none := by kernel_rfl
theorem laidOut : laidOutB Try.prog = true := by kernel_rfl

/-- WHAT THE WALK IS TOLD OF A SLICE OF INTEGERS THAT CAME IN: it is nil; or it leads to a row of 'cap' cells, the numbers 'zs' (the first 'len' are its elements, the rest its spare room), each fitting its kind. -/
def IsRow (k : IntKind) (w : World) (a : Option Addr) (len cap : Nat) (zs : List Int) : Prop :=
  (a = none ∧ len = 0 ∧ cap = 0 ∧ zs = []) ∨
  ∃ x, a = some x ∧ len ≤ cap ∧ cap ≤ maxLen ∧ zs.length = cap ∧ (∀ i, i < zs.length → w.cell? (x.add i) = some (.int k (zs.getD i 0))) ∧ ∀ n ∈ zs, (Lit.int k n).wf = true

/-! ### STEP 1: THE WALK: the Go text returns true, AND WRITES NOTHING THAT WAS THERE: 'Below w.heap.size w w'' (Derived/Below.lean: '.refl', '.alloc', '.drew', '.setCell' at a new block, '.trans'). Open each 'IsRow' by 'rcases' AHEAD of 'go_enter'; part every test ahead of the walk. -/
set_option maxHeartbeats 1000000 in
theorem walk (a0 : Int) (a1 : Option Addr) (len1 cap1 : Nat) (z1 : List Int) (a2 : Option Addr) (len2 cap2 : Nat) (z2 : List Int) (a3 : Int) (a4 : Int) (w : World) (w0 : (Lit.int .u64 a0).wf = true) (w1 : IsRow .u8 w a1 len1 cap1 z1) (w2 : IsRow .u8 w a2 len2 cap2 z2) (w3 : (Lit.int .i64 a3).wf = true) (w4 : (Lit.int .u32 a4).wf = true) :
    Calls Try.prog 8 #[.int .u64 a0, .slice a1 len1 cap1, .slice a2 len2 cap2, .int .i64 a3, .int .u32 a4] w fun e w' => e = .returned (.bool true) ∧ Below w.heap.size w w' := by
  have hx : 0 ≤ a0 ∧ a0 ≤ 18446744073709551615 := bounds_u64 w0
  have hbits : 0 ≤ a4 ∧ a4 ≤ 4294967295 := bounds_u32 w4
  have hrow : Bts w a1 len1 cap1 (z1.take len1) := Bts.of_row w1
  have hrow2 : Bts w a2 len2 cap2 (z2.take len2) := Bts.of_row w2
  generalize z1.take len1 = l at hrow
  generalize z2.take len2 = l2 at hrow2
  obtain ⟨B, rfl⟩ : ∃ B : Nat, a4 = B := ⟨a4.toNat, by omega⟩
  clear w1 w2
  go_enter Try.func8, Try.ntmps8
  go_wp2_with fail
  refine (cut_any a1 len1 cap1 2000 l _ hrow (by decide)).mono ?_
  rintro e w' ⟨⟨len, rfl, hl⟩, rfl⟩
  have hlen : len ≤ 2000 := by have := hl.len_eq; rw [List.length_take] at this; omega
  generalize l.take 2000 = m at hl
  clear hrow
  go_wp2_with fail
  refine (cut_any a2 len2 cap2 100 l2 _ hrow2 (by decide)).mono ?_
  rintro e w' ⟨⟨lenz, rfl, hz⟩, rfl⟩
  have hlenz : lenz ≤ 100 := by have := hz.len_eq; rw [List.length_take] at this; omega
  generalize l2.take 100 = z at hz
  clear hrow2
  have HMB : Bx (Byt m) := ⟨hl.byt⟩
  have HML : Hid (m.length = len) := hl.len_eq
  have HZB : Bx (Byt z) := ⟨hz.byt⟩
  go_wp2_with fail
  refine (put8_any a0 a1 len cap1 m _ hx.1 hx.2 hl).mono ?_
  rintro e wa ⟨v3, rfl, hown3, hb3⟩
  by_cases hok : a0 = 0
  · have hpe := ptE_arg hok m.length
    rw [ptL_no (by rw [hpe]; decide)] at hown3
    rw [hpe]
    have h0b : (a0 == 0) = true := by simpa using hok
    clear hpe hown3 HMB HML HZB hl hz
    go_wp2_with fail
    refine (lives_any _).mono ?_
    rintro e w5 ⟨rfl, hb12⟩
    go_wp2
    go_ret
    exact ⟨rfl, bstep hb3 hb12⟩
  · have hpe := ptE_ok (seq := a0) (n := m.length) hok (by rw [HML.out]; omega)
    rw [ptL_ok hpe] at hown3
    rw [hpe]
    have hfl : (frmL a0 m).length = 20 + len := by rw [frmL_len, HML.out]
    rw [hfl] at hown3
    have HFB : Bx (Byt (frmL a0 m)) := ⟨frmL_byt a0 m HMB.out⟩
    have HBAD : Bx (∀ p0 i, p0 + i ≤ 8 * (20 + len) → i ≤ 32 → tnT B i = true → rdE (tnL (frmL a0 m) p0 B i ++ z) ≠ 0) := ⟨fun p0 i h1 h2 h3 => tn_bad a0 m z p0 B i (by omega) (by omega) (by rw [HML.out]; omega) HMB.out (by rw [HML.out]; exact h1) h2 h3⟩
    have HGOOD : Bx (rdE (frmL a0 m ++ z) = 0) := ⟨(rd_back a0 m z (by omega) (by omega) (by rw [HML.out]; omega)).1⟩
    have HFL : Hid ((frmL a0 m).length = 20 + len) := hfl
    clear hpe hfl hl
    generalize frmL a0 m = F at hown3 HFB HBAD HGOOD HFL
    obtain ⟨n, hn⟩ : ∃ n : Nat, n = 20 + len := ⟨_, rfl⟩
    rw [← hn] at hown3 HBAD HFL
    have hn0 : 20 ≤ n ∧ n ≤ 2020 := by omega
    clear hn
    obtain ⟨g, cg, rfl, hg0, hg1⟩ := owns_form hown3 (by omega)
    have hw1 : IntKind.i64.wrap (8 * (n : Int)) = 8 * (n : Int) := by rw [IntWalk.i64_in _ (by omega)]
    have hw2 : IntKind.i64.wrap (8 * (n : Int) - 1) = 8 * (n : Int) - 1 := by rw [IntWalk.i64_in _ (by omega)]
    go_wp2_with fail
    refine (least_any a3 0 (8 * (n : Int) - 1) _).mono ?_
    rintro e w' ⟨rfl, rfl⟩
    have hk := least_bd a3 0 (8 * (n : Int) - 1) (by omega)
    generalize leastV a3 0 (8 * (n : Int) - 1) = kk at hk ⊢
    obtain ⟨p0, rfl⟩ : ∃ k : Nat, kk = k := ⟨kk.toNat, by omega⟩
    have hp0 : p0 < 8 * n := by omega
    clear hk
    go_wp2
    go_loopw [13, 14] (fun t iv wr => ∃ i : Nat, i ≤ 32 ∧ p0 + i ≤ 8 * n ∧ iv = .int .i64 i ∧ t = .bool (tnT B i) ∧ wr.ownsRow w.heap.size 5 1 (.slice (some ⟨g, 0, none⟩) n cg) n (bv (tnL F p0 B i)) ∧ Below w.heap.size w wr) (fun _ iv _ => 32 - (intOf iv).toNat)
    case atStart => exact ⟨0, Nat.zero_le _, by omega, rfl, rfl, hown3, hb3⟩
    case round =>
      clear hown3 hb3 hw2 hg1
      obtain ⟨i, hi, hpi, rfl, rfl, ho, hb⟩ := hrel
      have hw3 : IntKind.i64.wrap ((p0 : Int) + (i : Int)) = (p0 : Int) + (i : Int) := by rw [IntWalk.i64_in _ (by omega)]
      by_cases hgo : i < 32 ∧ p0 + i < 8 * n
      · have g1 : (i : Int) < 32 := by omega
        have g2 : (p0 : Int) + (i : Int) < 8 * (n : Int) := by omega
        have g1' : decide ((i : Int) < 32) = true := decide_eq_true g1
        have g2' : decide ((p0 : Int) + (i : Int) < 8 * (n : Int)) = true := decide_eq_true g2
        have hbs := bit_shr B i (by omega)
        have hjn : (p0 + i) / 8 < n := by omega
        by_cases hbit : B.testBit i = true
        · rw [hbit] at hbs
          have hcell := ho.cellAt ((p0 + i) / 8) (by omega)
          have HLN : Hid ((tnL F p0 B i).length = n) := by show _ = _; rw [tnL_len]; exact HFL.out
          have hcell2 : wr.cell? ⟨g, (p0 + i) / 8, none⟩ = some (.int .u8 ((tnL F p0 B i).getD ((p0 + i) / 8) 0)) := by
            rw [hcell, List.getD_eq_getElem?_getD]
            simp [bv, List.getElem?_eq_getElem (show (p0 + i) / 8 < (tnL F p0 B i).length by rw [HLN.out]; omega)]
          have hf := ho.frozenAt ((p0 + i) / 8)
          have hC := (tnL_byt F p0 B i HFB.out).getD ((p0 + i) / 8)
          have hst := ho.stored ((p0 + i) / 8) (.int .u8 (tnB ((tnL F p0 B i).getD ((p0 + i) / 8) 0) ((p0 + i) % 8)))
          rw [bv_set, ← tnL_step F p0 B i hbit] at hst
          have hx8 := xor_tn ((tnL F p0 B i).getD ((p0 + i) / 8) 0) ((p0 + i) % 8) hC (by omega)
          have hb6 := hb.grown hst.2 hb.size (by intro k hk; cases hk; exact hg0)
          have HT : Hid (tnT B (i + 1) = true) := tnT_step B i hbit
          generalize tnB ((tnL F p0 B i).getD ((p0 + i) / 8) 0) ((p0 + i) % 8) = X at hst hx8 hb6
          generalize (tnL F p0 B i).getD ((p0 + i) / 8) 0 = C at hcell2 hC hx8
          have ho2 := hst.1
          clear hcell ho hb hst hbit
          go_wp2
          go_roundw
          case rel => exact ⟨i + 1, by omega, by omega, by go_num, by rw [HT.out], ho2, hb6⟩
          case measure => simp [intOf]; omega
        · have hbf : B.testBit i = false := by simpa using hbit
          rw [hbf] at hbs
          have HS : Hid (tnL F p0 B (i + 1) = tnL F p0 B i) := tnL_stay F p0 B i hbit
          have HT : Hid (tnT B (i + 1) = tnT B i) := tnT_stay B i hbit
          clear hbf hbit
          go_wp2
          go_roundw
          case rel => exact ⟨i + 1, by omega, by omega, by go_num, by rw [HT.out], by rw [HS.out]; exact ho, hb⟩
          case measure => simp [intOf]; omega
      · by_cases hi2 : i < 32
        · have g1 : (i : Int) < 32 := by omega
          have g2 : ¬ (p0 : Int) + (i : Int) < 8 * (n : Int) := by omega
          have g1' : decide ((i : Int) < 32) = true := decide_eq_true g1
          have g2' : decide ((p0 : Int) + (i : Int) < 8 * (n : Int)) = false := decide_eq_false g2
          have hsz := hb.size
          have hzb := hz.below hb
          have HBY : Bx (Byt (tnL F p0 B i ++ z)) := ⟨(tnL_byt F p0 B i HFB.out).append HZB.out⟩
          go_wp2_with (at_builtin; refine wpList_append_bts rfl (.tmp 82) (.tmp 83) rfl w.heap.size n _ (tnL F p0 B i) rfl ho a2 lenz cap2 z rfl hzb (by omega) hsz ?_; intro v7 w7 hown7 hb7 _; obtain ⟨a7, c7, rfl, hm7⟩ := Bts.of_owns hown7 HBY.out; have hb7' := hb.trans hb7; clear hown7 hb7 hb ho hzb hz)
          refine (read8_any a7 _ c7 _ _ hm7).mono ?_
          rintro e w8 ⟨v8, rfl, hown8, hb8⟩
          have hb9 := bstep hb7' hb8
          by_cases ht : tnT B i = true
          · have hE := HBAD.out p0 i hpi hi ht
            obtain ⟨r1, r2, r3⟩ := rd_no hE
            rw [r2] at hown8
            rw [ht]
            obtain ⟨a9, c9, rfl, _⟩ := Bts.of_owns hown8 Byt.nil
            have hE' : (rdE (tnL F p0 B i ++ z) == 0) = false := by simpa using hE
            generalize rdE (tnL F p0 B i ++ z) = E at hE' ⊢
            generalize rdS (tnL F p0 B i ++ z) = S
            generalize rdN (tnL F p0 B i ++ z) = N
            clear r1 r2 r3 hE ht hown8 hm7 HBAD HGOOD HBY
            go_wp2_with fail
            refine (lives_any _).mono ?_
            rintro e w5 ⟨rfl, hb12⟩
            go_wp2
            go_ret
            exact ⟨rfl, bstep hb9 hb12⟩
          · have htf : tnT B i = false := by simpa using ht
            have hE : rdE (tnL F p0 B i ++ z) = 0 := by rw [tnL_none F p0 B i htf]; exact HGOOD.out
            rw [htf, hE]
            generalize rdS (tnL F p0 B i ++ z) = S
            generalize rdN (tnL F p0 B i ++ z) = N
            clear hE ht htf hown8 hm7 HBAD HGOOD HBY
            go_wp2_with fail
            refine (lives_any _).mono ?_
            rintro e w5 ⟨rfl, hb12⟩
            go_wp2
            go_ret
            exact ⟨rfl, bstep hb9 hb12⟩
        · have g1 : ¬ (i : Int) < 32 := by omega
          have g1' : decide ((i : Int) < 32) = false := decide_eq_false g1
          have hsz := hb.size
          have hzb := hz.below hb
          have HBY : Bx (Byt (tnL F p0 B i ++ z)) := ⟨(tnL_byt F p0 B i HFB.out).append HZB.out⟩
          go_wp2_with (at_builtin; refine wpList_append_bts rfl (.tmp 82) (.tmp 83) rfl w.heap.size n _ (tnL F p0 B i) rfl ho a2 lenz cap2 z rfl hzb (by omega) hsz ?_; intro v7 w7 hown7 hb7 _; obtain ⟨a7, c7, rfl, hm7⟩ := Bts.of_owns hown7 HBY.out; have hb7' := hb.trans hb7; clear hown7 hb7 hb ho hzb hz)
          refine (read8_any a7 _ c7 _ _ hm7).mono ?_
          rintro e w8 ⟨v8, rfl, hown8, hb8⟩
          have hb9 := bstep hb7' hb8
          by_cases ht : tnT B i = true
          · have hE := HBAD.out p0 i hpi hi ht
            obtain ⟨r1, r2, r3⟩ := rd_no hE
            rw [r2] at hown8
            rw [ht]
            obtain ⟨a9, c9, rfl, _⟩ := Bts.of_owns hown8 Byt.nil
            have hE' : (rdE (tnL F p0 B i ++ z) == 0) = false := by simpa using hE
            generalize rdE (tnL F p0 B i ++ z) = E at hE' ⊢
            generalize rdS (tnL F p0 B i ++ z) = S
            generalize rdN (tnL F p0 B i ++ z) = N
            clear r1 r2 r3 hE ht hown8 hm7 HBAD HGOOD HBY
            go_wp2_with fail
            refine (lives_any _).mono ?_
            rintro e w5 ⟨rfl, hb12⟩
            go_wp2
            go_ret
            exact ⟨rfl, bstep hb9 hb12⟩
          · have htf : tnT B i = false := by simpa using ht
            have hE : rdE (tnL F p0 B i ++ z) = 0 := by rw [tnL_none F p0 B i htf]; exact HGOOD.out
            rw [htf, hE]
            generalize rdS (tnL F p0 B i ++ z) = S
            generalize rdN (tnL F p0 B i ++ z) = N
            clear hE ht htf hown8 hm7 HBAD HGOOD HBY
            go_wp2_with fail
            refine (lives_any _).mono ?_
            rintro e w5 ⟨rfl, hb12⟩
            go_wp2
            go_ret
            exact ⟨rfl, bstep hb9 hb12⟩

/-! ### THE ROW's STEP: WRITTEN OUT: LEAVE IT -/
set_option maxRecDepth 100000 in
theorem lifted (os : Os) (started : os.Started) (H : Type) (enc : TypeId × Value → H) :
    ReturnsInHanded {} Try.checked os 8 .any (Rows.frameBurstSpec.pre6 enc Try.prog Try.f8 Rows.frameBurstRow.domain false) (Rows.frameBurstSpec.post enc Try.prog Try.f8 false true false false) := by
  refine returnsInHanded_of_change (C := Try.checked) own started (by kernel_rfl) Try.func8
    (ChangeSpec.witness6 (enc := enc) (C := Try.checked) false ⟨#[], #[.int .u64 0, .slice none 0 0, .slice none 0 0, .int .i64 0, .int .u32 0], []⟩ 8 (by kernel_rfl) (by kernel_rfl) (by kernel_rfl) (by kernel_rfl)) ?_
  intro W base args ds gs before hval0 hW hcnd _
  have hval : ∀ (j : Nat) t v, Try.f8.params[j]? = some t → args[j]? = some v → Value.okWide Try.prog W .any base t v := hval0
  have hW' := hW
  obtain ⟨p, q, hA0, hV, rfl, hfz, hnd⟩ := hW
  have hA : DataW.TrodAll enc Try.prog W 0 (fun _ => true) true Try.f8.params.toList args.toList ds p := hA0
  rw [Try.params8] at hA hval
  obtain ⟨v0, vs0, d0, ds0, p0, q0, hargs, rfl, rfl, h0, r0⟩ := trodAll_cons hA
  obtain ⟨v1, vs1, d1, ds1, p1, q1, rfl, rfl, rfl, h1, r1⟩ := trodAll_cons r0
  obtain ⟨v2, vs2, d2, ds2, p2, q2, rfl, rfl, rfl, h2, r2⟩ := trodAll_cons r1
  obtain ⟨v3, vs3, d3, ds3, p3, q3, rfl, rfl, rfl, h3, r3⟩ := trodAll_cons r2
  obtain ⟨v4, vs4, d4, ds4, p4, q4, rfl, rfl, rfl, h4, r4⟩ := trodAll_cons r3
  obtain ⟨rfl, rfl, rfl⟩ := trodAll_nil r4
  obtain rfl : args = #[v0, v1, v2, v3, v4] := by cases args; simp_all
  obtain ⟨rfl, rfl⟩ := trodVars_none hV
  obtain ⟨a0, rfl, rfl, rfl, w0⟩ := open_int Try.underlying32 (hval 0 32 v0 rfl rfl) h0
  obtain ⟨a1, len1, cap1, rfl⟩ := okWide_slice Try.underlying22 (hval 1 22 v1 rfl rfl)
  have k1 := h1
  have lt1 : ∀ x ∈ p1, x.block < W.heap.size := by obtain ⟨m, hm⟩ := k1; exact DataW.trod_lt m _ _ _ hm
  obtain ⟨z1, w1⟩ : ∃ zs, IsRow .u8 W a1 len1 cap1 zs := by
    obtain ⟨fuel, hf⟩ := h1
    rcases open_ints Try.underlying22 Try.underlying5 (by kernel_rfl) hf with ⟨hcs, _⟩ | ⟨x, l, c, zs, hcs, _, hl, hm, hz, _, hcell, hwz⟩
    · simp [Value.cells] at hcs
      obtain ⟨rfl, rfl, rfl⟩ := hcs
      exact ⟨[], .inl ⟨rfl, rfl, rfl, rfl⟩⟩
    · simp [Value.cells] at hcs
      obtain ⟨rfl, rfl, rfl⟩ := hcs
      exact ⟨zs, .inr ⟨_, rfl, hl, hm, by simpa using hz, hcell, hwz⟩⟩
  obtain ⟨a2, len2, cap2, rfl⟩ := okWide_slice Try.underlying22 (hval 2 22 v2 rfl rfl)
  have k2 := h2
  have lt2 : ∀ x ∈ p2, x.block < W.heap.size := by obtain ⟨m, hm⟩ := k2; exact DataW.trod_lt m _ _ _ hm
  obtain ⟨z2, w2⟩ : ∃ zs, IsRow .u8 W a2 len2 cap2 zs := by
    obtain ⟨fuel, hf⟩ := h2
    rcases open_ints Try.underlying22 Try.underlying5 (by kernel_rfl) hf with ⟨hcs, _⟩ | ⟨x, l, c, zs, hcs, _, hl, hm, hz, _, hcell, hwz⟩
    · simp [Value.cells] at hcs
      obtain ⟨rfl, rfl, rfl⟩ := hcs
      exact ⟨[], .inl ⟨rfl, rfl, rfl, rfl⟩⟩
    · simp [Value.cells] at hcs
      obtain ⟨rfl, rfl, rfl⟩ := hcs
      exact ⟨zs, .inr ⟨_, rfl, hl, hm, by simpa using hz, hcell, hwz⟩⟩
  obtain ⟨a3, rfl, rfl, rfl, w3⟩ := open_int Try.underlying3 (hval 3 3 v3 rfl rfl) h3
  obtain ⟨a4, rfl, rfl, rfl, w4⟩ := open_int Try.underlying26 (hval 4 26 v4 rfl rfl) h4
  clear hA0 hval0
  refine (walk a0 a1 len1 cap1 z1 a2 len2 cap2 z2 a3 a4 W w0 w1 w2 w3 w4).mono fun e W' ⟨he, bel⟩ => ?_
  subst he
  exact ⟨_, rfl, _, _, _, [], _, [], hW', trodAll_mk1 (shut_bool Try.underlying4 _), (trodAll_cons_mk (shut_int Try.underlying32 w0) (trodAll_cons_mk (Below.trod laidOut (by kernel_rfl) (of_decide_eq_true (by kernel_rfl)) k1 bel lt1) (trodAll_cons_mk (Below.trod laidOut (by kernel_rfl) (of_decide_eq_true (by kernel_rfl)) k2 bel lt2) (trodAll_cons_mk (shut_int Try.underlying3 w3) (trodAll_cons_mk (shut_int Try.underlying26 w4) trodAll_mk0))))), rfl, bel.frame _, fun h => by cases h⟩

theorem over : Rows.frameBurstRow.holds Try.pinned (OpenSpec.ofChange Rows.frameBurstSpec) :=
  OpenClaim.holds_of_wide 8 Try.f8 rfl rfl rfl rfl rfl rfl rfl ⟨rfl, rfl, rfl, rfl, rfl⟩ rfl rfl rfl rfl rfl (by kernel_rfl) Try.func8 (by kernel_rfl)
    (of_decide_eq_true (by kernel_rfl)) (by unfold Func.isWrapper; first | (rw [if_pos (by decide +kernel)]; kernel_rfl) | (rw [if_neg (by decide +kernel)]; exact ⟨rfl, rfl⟩))
    (fun os started H enc _ => lifted os started H enc)

/-- ████ THE STATEMENT ████ -/
theorem proved : Rows.FrameBurstSaid := over
end Go.Proofs.Ytjbeghejnhjckaa.frameBurst
namespace Go.Proofs.Ytjbeghejnhjckaa
theorem frameBurst_holds : Rows.FrameBurstSaid := frameBurst.proved
#print axioms frameBurst_holds
end Go.Proofs.Ytjbeghejnhjckaa
