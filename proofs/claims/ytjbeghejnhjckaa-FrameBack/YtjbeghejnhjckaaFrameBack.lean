/- For every uint64, two slices of bytes and every int the law FrameBack returns true and the slices read as they did (P8.4): what is put is read, whatever stands behind, and a beginning of a frame is too short. No condition. -/
import Derived.Test.YtjbeghejnhjckaaRows
import Derived.Test.YtjbeghejnhjckaaFReadR
import Derived.Test.YtjbeghejnhjckaaCut
import Derived.Test.YtjbeghejnhjckaaSame
import Derived.Test.YtjbeghejnhjckaaLeast
import Derived.WalkKit
import Derived.ProofKit
import Derived.OpenShut
import Derived.ShutString
import Derived.ChangeOld
import Derived.Below
namespace Go.Proofs.Ytjbeghejnhjckaa.frameBack
open Go.ChangeShapes Go.WideShapes Go.ChangeAt Go.RowKit
open Go.ChangeMaps (open_string shut_string)
set_option linter.unusedVariables false

theorem own : ownKnob Try.prog.godebug = none := by kernel_rfl
theorem laidOut : laidOutB Try.prog = true := by kernel_rfl

/-- WHAT THE WALK IS TOLD OF A SLICE OF INTEGERS THAT CAME IN: it is nil; or it leads to a row of 'cap' cells, the numbers 'zs' (the first 'len' are its elements, the rest its spare room), each fitting its kind. -/
def IsRow (k : IntKind) (w : World) (a : Option Addr) (len cap : Nat) (zs : List Int) : Prop :=
  (a = none ∧ len = 0 ∧ cap = 0 ∧ zs = []) ∨
  ∃ x, a = some x ∧ len ≤ cap ∧ cap ≤ maxLen ∧ zs.length = cap ∧ (∀ i, i < zs.length → w.cell? (x.add i) = some (.int k (zs.getD i 0))) ∧ ∀ n ∈ zs, (Lit.int k n).wf = true

/-! ### STEP 1: THE WALK: the Go text returns true, AND WRITES NOTHING THAT WAS THERE: 'Below w.heap.size w w'' (Derived/Below.lean: '.refl', '.alloc', '.drew', '.setCell' at a new block, '.trans'). Open each 'IsRow' by 'rcases' AHEAD of 'go_enter'; part every test ahead of the walk. -/
set_option maxHeartbeats 1000000 in
theorem walk (a0 : Int) (a1 : Option Addr) (len1 cap1 : Nat) (z1 : List Int) (a2 : Option Addr) (len2 cap2 : Nat) (z2 : List Int) (a3 : Int) (w : World) (w0 : (Lit.int .u64 a0).wf = true) (w1 : IsRow .u8 w a1 len1 cap1 z1) (w2 : IsRow .u8 w a2 len2 cap2 z2) (w3 : (Lit.int .i64 a3).wf = true) :
    Calls Try.prog 6 #[.int .u64 a0, .slice a1 len1 cap1, .slice a2 len2 cap2, .int .i64 a3] w fun e w' => e = .returned (.bool true) ∧ Below w.heap.size w w' := by
  have hx : 0 ≤ a0 ∧ a0 ≤ 18446744073709551615 := bounds_u64 w0
  have hrow : Bts w a1 len1 cap1 (z1.take len1) := Bts.of_row w1
  have hrow2 : Bts w a2 len2 cap2 (z2.take len2) := Bts.of_row w2
  generalize z1.take len1 = l at hrow
  generalize z2.take len2 = l2 at hrow2
  clear w1 w2
  go_enter Try.func6, Try.ntmps6
  go_wp2_with fail
  refine (cut_any a1 len1 cap1 20000 l _ hrow (by decide)).mono ?_
  rintro e w' ⟨⟨len, rfl, hl⟩, rfl⟩
  have hlen : len ≤ 20000 := by have := hl.len_eq; rw [List.length_take] at this; omega
  generalize l.take 20000 = m at hl
  clear hrow
  go_wp2_with fail
  refine (cut_any a2 len2 cap2 100 l2 _ hrow2 (by decide)).mono ?_
  rintro e w' ⟨⟨lenz, rfl, hz⟩, rfl⟩
  have hlenz : lenz ≤ 100 := by have := hz.len_eq; rw [List.length_take] at this; omega
  generalize l2.take 100 = z at hz
  clear hrow2
  have HMB : Bx (Byt m) := ⟨hl.byt⟩
  have HML : Hid (m.length = len) := hl.len_eq
  have HZB : Bx (Byt z) := ⟨hz.byt⟩
  go_wp2_with fail
  refine (put8_any a0 a1 len cap1 m _ hx.1 hx.2 hl).mono ?_
  rintro e wa ⟨v3, rfl, hown3, hb3⟩
  by_cases hok : a0 ≠ 0 ∧ len ≤ 16384
  · have hpe := ptE_ok (seq := a0) (n := m.length) hok.1 (by rw [HML.out]; omega)
    have hpl := ptL_ok hpe
    rw [hpl] at hown3
    rw [hpe]
    have hfl : (frmL a0 m).length = 20 + len := by rw [frmL_len, HML.out]
    rw [hfl] at hown3
    have hfb := frmL_byt a0 m HMB.out
    obtain ⟨s1, s2, s3, s4⟩ := rd_back a0 m z (by omega) (by omega) (by rw [HML.out]; exact hok.2)
    rw [HML.out] at s4
    have HR : Bx (∀ (w' : World) (a' : Option Addr) (c' : Nat), Bts w' a' (20 + len + lenz) c' (frmL a0 m ++ z) → Calls Try.prog 19 #[.slice a' (20 + len + lenz) c'] w' fun e w'' => ∃ v, e = .returned (.tuple #[.int .u64 a0, v, .int .i64 ((20 + len : Nat) : Int), .int .i64 0]) ∧ w''.ownsRow w'.heap.size 5 1 v len (bv m) ∧ Below w'.heap.size w' w'') := ⟨fun w' a' c' hb => by
      have h := read8_any a' (20 + len + lenz) c' (frmL a0 m ++ z) w' hb
      unfold RdP at h
      rw [s1, s2, s3, s4, HML.out] at h
      exact h⟩
    have HB : Bx (∀ (k : Nat), k < 20 + len → rdE ((frmL a0 m).take k) = 3) := ⟨fun k hk => rd_begin a0 m k (by omega) (by omega) (by rw [HML.out]; exact hok.2) (by rw [HML.out]; exact hk)⟩
    have HFZ : Bx (Byt (frmL a0 m ++ z)) := ⟨hfb.append HZB.out⟩
    have h0b : (a0 == 0) = false := by simpa using hok.1
    have hbg : ¬ (16384 : Int) < (len : Int) := by omega
    have hbg' : decide ((16384 : Int) < (len : Int)) = false := by simpa using hbg
    obtain ⟨a5, c5, rfl, hf⟩ := Bts.of_owns hown3 hfb
    have hl3 := hl.below hb3
    have hz3 := hz.below hb3
    clear hpe hpl hfl hfb s1 s2 s3 s4 hown3 hl hz
    generalize frmL a0 m = F at hf HR HB HFZ
    go_wp2_with fail
    refine (copy_any a5 (20 + len) c5 F _ hf (by omega)).mono ?_
    rintro e wb ⟨v6, rfl, hown6, hb6⟩
    have hz6 := hz3.below hb6
    clear hz3
    go_wp2_with (at_builtin; refine wpList_append_bts rfl (.tmp 44) (.tmp 45) rfl wa.heap.size (20 + len) _ F rfl hown6 a2 lenz cap2 z rfl hz6 (by omega) hb6.size ?_; intro v7 w7 hown7 hb7 _; obtain ⟨a7, c7, rfl, hm7⟩ := Bts.of_owns hown7 HFZ.out; have hb7' := hb6.trans hb7; clear hown7 hown6 hb6 hb7 hz6)
    refine (HR.out _ a7 c7 hm7).mono ?_
    rintro e wc ⟨v8, rfl, hown8, hb8⟩
    obtain ⟨a8, c8, rfl, hm8⟩ := Bts.of_owns hown8 HMB.out
    have hb8' := bstep hb7' hb8
    have hl8 := hl3.below hb8'
    have hf8 := hf.below hb8'
    have hne : (a0 != a0) = false := by simp
    have hne2 : (((20 + len : Nat) : Int) != ((20 + len : Nat) : Int)) = false := by simp
    clear hown8 hm7 hb7' hb8 HR hl3 hf
    have hfcap := hf8.le_cap
    have hfcap2 := hf8.cap_le
    unfold maxLen at hfcap2
    obtain ⟨bf, of, rfl, _, _⟩ := hf8.spot (by omega)
    obtain ⟨n, hn⟩ : ∃ n : Nat, n = 20 + len := ⟨_, rfl⟩
    rw [← hn] at hne2 hf8 HB hfcap ⊢
    have hn0 : 20 ≤ n ∧ n ≤ 20020 := by omega
    clear hn
    go_wp2_with fail
    refine (same_yes a8 a1 len len c8 cap1 m _ hm8 hl8).mono ?_
    rintro e w' ⟨rfl, q, rfl⟩
    have hb9 := below_drewN hb8' q
    have hf9 := hf8.drewN q
    clear hf8 hm8 hl8 hb8' hne
    generalize wc.drewN q = wd at hb9 hf9 ⊢
    have hw1 : IntKind.i64.wrap ((n : Int) - 1) = (n : Int) - 1 := by rw [IntWalk.i64_in _ (by omega)]
    go_wp2_with fail
    refine (least_any a3 0 ((n : Int) - 1) _).mono ?_
    rintro e w' ⟨rfl, rfl⟩
    have hk := least_bd a3 0 ((n : Int) - 1) (by omega)
    generalize leastV a3 0 ((n : Int) - 1) = kk at hk ⊢
    obtain ⟨k, rfl⟩ : ∃ k : Nat, kk = k := ⟨kk.toNat, by omega⟩
    have hk1 : (0 : Int) ≤ (k : Int) := by omega
    have hk2 : (k : Int) ≤ (c5 : Int) := by omega
    have hcut := hf9.cut k (by omega)
    have HK : Bx (rdE (F.take k) = 3) := ⟨HB.out k (by omega)⟩
    clear HB hw1 hne2 hf9
    go_wp2_with fail
    refine (read8_any _ k _ (F.take k) _ hcut).mono ?_
    rintro e we ⟨v10, rfl, hown10, hb10⟩
    obtain ⟨r1, r2, r3⟩ := rd_no (l := F.take k) (by rw [HK.out]; decide)
    rw [r2] at hown10
    rw [r1, r3, HK.out]
    obtain ⟨a11, c11, rfl, _⟩ := Bts.of_owns hown10 Byt.nil
    clear r1 r2 r3 hown10 hcut
    go_wp2_with fail
    refine (lives_any _).mono ?_
    rintro e w5 ⟨rfl, hb12⟩
    go_wp2
    go_ret
    exact ⟨rfl, bstep (bstep (bstep hb3 hb9) hb10) hb12⟩
  · have hpe : ptE a0 m.length ≠ 0 := by
      by_cases h0 : a0 = 0
      · rw [ptE_arg h0]; decide
      · rw [ptE_big h0 (by rw [HML.out]; omega)]; decide
    rw [ptL_no hpe] at hown3
    have hE' : (ptE a0 m.length != 0) = true := by simpa using hpe
    generalize ptE a0 m.length = E at hE' ⊢
    obtain ⟨a5, c5, rfl, _⟩ := Bts.of_owns hown3 Byt.nil
    clear hpe hown3 HMB HML HZB hl hz
    by_cases h0 : a0 = 0
    · have h0b : (a0 == 0) = true := by simpa using h0
      go_wp2_with fail
      refine (lives_any _).mono ?_
      rintro e w5 ⟨rfl, hb12⟩
      go_wp2
      go_ret
      exact ⟨rfl, bstep hb3 hb12⟩
    · have h0b : (a0 == 0) = false := by simpa using h0
      have hbg : (16384 : Int) < (len : Int) := by omega
      have hbg' : decide ((16384 : Int) < (len : Int)) = true := by simpa using hbg
      go_wp2_with fail
      refine (lives_any _).mono ?_
      rintro e w5 ⟨rfl, hb12⟩
      go_wp2
      go_ret
      exact ⟨rfl, bstep hb3 hb12⟩

/-! ### THE ROW's STEP: WRITTEN OUT: LEAVE IT -/
set_option maxRecDepth 100000 in
theorem lifted (os : Os) (started : os.Started) (H : Type) (enc : TypeId × Value → H) :
    ReturnsInHanded {} Try.checked os 6 .any (Rows.frameBackSpec.pre6 enc Try.prog Try.f6 Rows.frameBackRow.domain false) (Rows.frameBackSpec.post enc Try.prog Try.f6 false true false false) := by
  refine returnsInHanded_of_change (C := Try.checked) own started (by kernel_rfl) Try.func6
    (ChangeSpec.witness6 (enc := enc) (C := Try.checked) false ⟨#[], #[.int .u64 0, .slice none 0 0, .slice none 0 0, .int .i64 0], []⟩ 8 (by kernel_rfl) (by kernel_rfl) (by kernel_rfl) (by kernel_rfl)) ?_
  intro W base args ds gs before hval0 hW hcnd _
  have hval : ∀ (j : Nat) t v, Try.f6.params[j]? = some t → args[j]? = some v → Value.okWide Try.prog W .any base t v := hval0
  have hW' := hW
  obtain ⟨p, q, hA0, hV, rfl, hfz, hnd⟩ := hW
  have hA : DataW.TrodAll enc Try.prog W 0 (fun _ => true) true Try.f6.params.toList args.toList ds p := hA0
  rw [Try.params6] at hA hval
  obtain ⟨v0, vs0, d0, ds0, p0, q0, hargs, rfl, rfl, h0, r0⟩ := trodAll_cons hA
  obtain ⟨v1, vs1, d1, ds1, p1, q1, rfl, rfl, rfl, h1, r1⟩ := trodAll_cons r0
  obtain ⟨v2, vs2, d2, ds2, p2, q2, rfl, rfl, rfl, h2, r2⟩ := trodAll_cons r1
  obtain ⟨v3, vs3, d3, ds3, p3, q3, rfl, rfl, rfl, h3, r3⟩ := trodAll_cons r2
  obtain ⟨rfl, rfl, rfl⟩ := trodAll_nil r3
  obtain rfl : args = #[v0, v1, v2, v3] := by cases args; simp_all
  obtain ⟨rfl, rfl⟩ := trodVars_none hV
  obtain ⟨a0, rfl, rfl, rfl, w0⟩ := open_int Try.underlying32 (hval 0 32 v0 rfl rfl) h0
  obtain ⟨a1, len1, cap1, rfl⟩ := okWide_slice Try.underlying22 (hval 1 22 v1 rfl rfl)
  have k1 := h1
  have lt1 : ∀ x ∈ p1, x.block < W.heap.size := by obtain ⟨m, hm⟩ := k1; exact DataW.trod_lt m _ _ _ hm
  obtain ⟨z1, w1⟩ : ∃ zs, IsRow .u8 W a1 len1 cap1 zs := by
    obtain ⟨fuel, hf⟩ := h1
    rcases open_ints Try.underlying22 Try.underlying5 (by kernel_rfl) hf with ⟨hcs, _⟩ | ⟨x, l, c, zs, hcs, _, hl, hm, hz, _, hcell, hwz⟩
    · simp [Value.cells] at hcs
      obtain ⟨rfl, rfl, rfl⟩ := hcs
      exact ⟨[], .inl ⟨rfl, rfl, rfl, rfl⟩⟩
    · simp [Value.cells] at hcs
      obtain ⟨rfl, rfl, rfl⟩ := hcs
      exact ⟨zs, .inr ⟨_, rfl, hl, hm, by simpa using hz, hcell, hwz⟩⟩
  obtain ⟨a2, len2, cap2, rfl⟩ := okWide_slice Try.underlying22 (hval 2 22 v2 rfl rfl)
  have k2 := h2
  have lt2 : ∀ x ∈ p2, x.block < W.heap.size := by obtain ⟨m, hm⟩ := k2; exact DataW.trod_lt m _ _ _ hm
  obtain ⟨z2, w2⟩ : ∃ zs, IsRow .u8 W a2 len2 cap2 zs := by
    obtain ⟨fuel, hf⟩ := h2
    rcases open_ints Try.underlying22 Try.underlying5 (by kernel_rfl) hf with ⟨hcs, _⟩ | ⟨x, l, c, zs, hcs, _, hl, hm, hz, _, hcell, hwz⟩
    · simp [Value.cells] at hcs
      obtain ⟨rfl, rfl, rfl⟩ := hcs
      exact ⟨[], .inl ⟨rfl, rfl, rfl, rfl⟩⟩
    · simp [Value.cells] at hcs
      obtain ⟨rfl, rfl, rfl⟩ := hcs
      exact ⟨zs, .inr ⟨_, rfl, hl, hm, by simpa using hz, hcell, hwz⟩⟩
  obtain ⟨a3, rfl, rfl, rfl, w3⟩ := open_int Try.underlying3 (hval 3 3 v3 rfl rfl) h3
  clear hA0 hval0
  refine (walk a0 a1 len1 cap1 z1 a2 len2 cap2 z2 a3 W w0 w1 w2 w3).mono fun e W' ⟨he, bel⟩ => ?_
  subst he
  exact ⟨_, rfl, _, _, _, [], _, [], hW', trodAll_mk1 (shut_bool Try.underlying4 _), (trodAll_cons_mk (shut_int Try.underlying32 w0) (trodAll_cons_mk (Below.trod laidOut (by kernel_rfl) (of_decide_eq_true (by kernel_rfl)) k1 bel lt1) (trodAll_cons_mk (Below.trod laidOut (by kernel_rfl) (of_decide_eq_true (by kernel_rfl)) k2 bel lt2) (trodAll_cons_mk (shut_int Try.underlying3 w3) trodAll_mk0)))), rfl, bel.frame _, fun h => by cases h⟩

theorem over : Rows.frameBackRow.holds Try.pinned (OpenSpec.ofChange Rows.frameBackSpec) :=
  OpenClaim.holds_of_wide 6 Try.f6 rfl rfl rfl rfl rfl rfl rfl ⟨rfl, rfl, rfl, rfl, rfl⟩ rfl rfl rfl rfl rfl (by kernel_rfl) Try.func6 (by kernel_rfl)
    (of_decide_eq_true (by kernel_rfl)) (by unfold Func.isWrapper; first | (rw [if_pos (by decide +kernel)]; kernel_rfl) | (rw [if_neg (by decide +kernel)]; exact ⟨rfl, rfl⟩))
    (fun os started H enc _ => lifted os started H enc)

/-- ████ THE STATEMENT ████ -/
theorem proved : Rows.FrameBackSaid := over
end Go.Proofs.Ytjbeghejnhjckaa.frameBack
namespace Go.Proofs.Ytjbeghejnhjckaa
theorem frameBack_holds : Rows.FrameBackSaid := frameBack.proved
#print axioms frameBack_holds
end Go.Proofs.Ytjbeghejnhjckaa
