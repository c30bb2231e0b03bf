/- For every uint64 x, every int n and every slice of bytes the law WordBack returns true and the slice reads as it did (P1.5): what is put is got, modulo as much as there is room for; what is written short is read as it was written, whatever stands behind. No condition. -/
import Derived.Test.YthlkdbfaelgadaaRows
import Derived.Test.YthlkdbfaelgadaaLives
import Derived.Test.YthlkdbfaelgadaaCut
import Derived.Test.YthlkdbfaelgadaaSame
import Derived.Test.YthlkdbfaelgadaaVar
import Derived.Test.YthlkdbfaelgadaaRefPut
import Derived.Test.YthlkdbfaelgadaaGet
import Derived.Test.YthlkdbfaelgadaaLeast
import Derived.WalkKit
import Derived.ProofKit
import Derived.OpenShut
import Derived.ShutString
import Derived.ChangeOld
import Derived.Below
namespace Go.Proofs.Ythlkdbfaelgadaa.wordBack
open Go.ChangeShapes Go.WideShapes Go.ChangeAt Go.RowKit
open Go.ChangeMaps (open_string shut_string)
set_option linter.unusedVariables false

theorem own : ownKnob Try.prog.godebug = none := by kernel_rfl
theorem laidOut : laidOutB Try.prog = true := by kernel_rfl

/-- WHAT THE WALK IS TOLD OF A SLICE OF INTEGERS THAT CAME IN: it is nil; or it leads to a row of 'cap' cells, the numbers 'zs' (the first 'len' are its elements, the rest its spare room), each fitting its kind. -/
def IsRow (k : IntKind) (w : World) (a : Option Addr) (len cap : Nat) (zs : List Int) : Prop :=
  (a = none ∧ len = 0 ∧ cap = 0 ∧ zs = []) ∨
  ∃ x, a = some x ∧ len ≤ cap ∧ cap ≤ maxLen ∧ zs.length = cap ∧ (∀ i, i < zs.length → w.cell? (x.add i) = some (.int k (zs.getD i 0))) ∧ ∀ n ∈ zs, (Lit.int k n).wf = true


theorem getV_putL (x : Int) (n : Nat) (h0 : 0 ≤ x) : getV (putL x n) = x % 256 ^ n := by
  suffices H : ∀ (n : Nat) (acc : Int), (putL x n).foldl (fun y c => 256 * y + c) acc = acc * 256 ^ n + x % 256 ^ n by
    have := H n 0; unfold getV; rw [this]; omega
  intro n
  induction n with
  | zero => intro acc; simp [putL, Int.emod_one]
  | succ n ih =>
    intro acc
    show (putL x n).foldl _ (256 * acc + sh x n % 256) = _
    rw [ih, Int.pow_succ]
    unfold sh
    have hp : (0 : Int) < 256 ^ n := Int.pow_pos (by decide)
    generalize (256 : Int) ^ n = P at *
    have e1 := Int.emod_add_mul_ediv x P
    have e2 := Int.emod_add_mul_ediv (x / P) 256
    have r1 := Int.emod_nonneg x (Int.ne_of_gt hp)
    have r2 := Int.emod_lt_of_pos x hp
    have hx : x = (x % P + P * (x / P % 256)) + (P * 256) * (x / P / 256) := by
      conv => lhs; rw [← e1, ← e2]
      rw [Int.mul_add, Int.mul_assoc, Int.add_assoc]
    have q0 : 0 ≤ x / P % 256 := Int.emod_nonneg _ (by decide)
    have q1 : x / P % 256 ≤ 255 := by have := Int.emod_lt_of_pos (x / P) (show (0 : Int) < 256 by decide); omega
    have m0 : 0 ≤ P * (x / P % 256) := Int.mul_nonneg (Int.le_of_lt hp) q0
    have m1 : P * (x / P % 256) ≤ P * 255 := Int.mul_le_mul_of_nonneg_left q1 (Int.le_of_lt hp)
    have hm : x % (P * 256) = x % P + P * (x / P % 256) := by
      conv => lhs; rw [hx]
      rw [Int.add_mul_emod_self_left, Int.emod_eq_of_lt (by omega) (by omega)]
    rw [hm, Int.add_mul, Int.mul_comm 256 acc, Int.mul_assoc, Int.mul_comm 256 P, Int.mul_comm (x / P % 256) P]
    omega
theorem p256_two (n : Nat) : (2 : Int) ^ (8 * n) = 256 ^ n := by rw [Int.pow_mul]; rfl
theorem p256_le (n : Nat) (h : n ≤ 7) : (256 : Int) ^ n ≤ 72057594037927936 := by
  rcases (by omega : n = 0 ∨ n = 1 ∨ n = 2 ∨ n = 3 ∨ n = 4 ∨ n = 5 ∨ n = 6 ∨ n = 7) with h | h | h | h | h | h | h | h <;> subst h <;> decide
/-! ### STEP 1: THE WALK: the Go text returns true, AND WRITES NOTHING THAT WAS THERE: 'Below w.heap.size w w'' (Derived/Below.lean: '.refl', '.alloc', '.drew', '.setCell' at a new block, '.trans'). Open each 'IsRow' by 'rcases' AHEAD of 'go_enter'; part every test ahead of the walk. -/
set_option maxHeartbeats 1000000 in
theorem walk (a0 : Int) (a1 : Int) (a2 : Option Addr) (len2 cap2 : Nat) (z2 : List Int) (w : World) (w0 : (Lit.int .u64 a0).wf = true) (w1 : (Lit.int .i64 a1).wf = true) (w2 : IsRow .u8 w a2 len2 cap2 z2) :
    Calls Try.prog 8 #[.int .u64 a0, .int .i64 a1, .slice a2 len2 cap2] w fun e w' => e = .returned (.bool true) ∧ Below w.heap.size w w' := by
  have hx : 0 ≤ a0 ∧ a0 ≤ 18446744073709551615 := bounds_u64 w0
  have hrow : Bts w a2 len2 cap2 (z2.take len2) := Bts.of_row w2
  generalize z2.take len2 = l at hrow
  clear w2
  go_enter Try.func8, Try.ntmps8
  go_wp2_with fail
  refine (cut_any a2 len2 cap2 30 l _ hrow (by decide)).mono ?_
  rintro e w' ⟨⟨len, rfl, hl⟩, rfl⟩
  have hlen : len ≤ 30 := by have := hl.len_eq; rw [List.length_take] at this; omega
  generalize l.take 30 = m at hl
  clear hrow
  go_wp2_with fail
  refine (least_any a1 1 8 _).mono ?_
  rintro e w' ⟨rfl, rfl⟩
  have hA := least_bd a1 1 8 (by decide)
  obtain ⟨n, hn⟩ : ∃ n : Nat, leastV a1 1 8 = n := ⟨(leastV a1 1 8).toNat, by omega⟩
  rw [hn] at hA ⊢
  clear hn
  have hn0 : 1 ≤ n := by omega
  have hn1 : n ≤ 8 := by omega
  go_wp2_with fail
  refine (put_some a0 n _ hn0 hn1 hx.1 hx.2).mono ?_
  rintro e w3 ⟨v3, rfl, hown3, hb3⟩
  obtain ⟨a3, cap3, rfl, hm3⟩ := Bts.of_owns hown3 (putL_byt a0 n)
  have hl3 := hl.below hb3
  clear hown3 hl
  go_wp2_with fail
  refine (get_some a3 n cap3 (putL a0 n) _ hm3 hn0 hn1).mono ?_
  rintro e w' ⟨rfl, rfl⟩
  clear hm3
  have hcase : ((n : Int) < 8 ∧ ∃ P : Int, IntKind.u64.wrap (2 ^ (8 * n)) = P ∧ 0 < P ∧ P ≤ 72057594037927936 ∧ Hid (getV (putL a0 n) = a0 % P)) ∨ ((¬ (n : Int) < 8) ∧ ∃ P : Int, P = 1 ∧ 0 < P ∧ P ≤ 72057594037927936 ∧ Hid (getV (putL a0 n) = a0)) := by
    rw [getV_putL a0 n hx.1]
    by_cases h8 : n < 8
    · have hp : (0 : Int) < 256 ^ n := Int.pow_pos (by decide)
      have hle := p256_le n (by omega)
      refine .inl ⟨by omega, 256 ^ n, ?_, hp, hle, rfl⟩
      rw [p256_two, IntKind.wrap_u64, Int.emod_eq_of_lt (by omega) (by omega)]
    · obtain rfl : n = 8 := by omega
      refine .inr ⟨by omega, 1, rfl, by decide, by decide, ?_⟩
      show _ = _
      rw [show (256 : Int) ^ 8 = 18446744073709551616 from rfl, Int.emod_eq_of_lt hx.1 (by omega)]
  obtain ⟨t, hT⟩ : ∃ t : List Int, t = varL a0 := ⟨_, rfl⟩
  have hbyt : Byt t := by rw [hT]; exact varL_byt a0 hx.1 hx.2
  have htl : 1 ≤ t.length ∧ t.length ≤ 10 := by rw [hT]; exact varL_length a0
  have HRD : Hid (rd (t ++ m) 0 0 = (a0, (t.length : Int), 0)) := by
    show _ = _
    rw [hT]
    have := rd_varF 9 a0 0 0 m hx.1 (by rw [show (128 : Int) ^ (9 + 1) = 1180591620717411303424 from rfl]; omega) (by omega) (by omega) (by simpa using hx.2)
    unfold varL
    rw [this]
    simp
  have HT : Hid (varL a0 = t) := hT.symm
  clear hT
  obtain ⟨i0, hi, hz0, hz1, hz2⟩ := info_parts Try.info5
  rcases hcase with ⟨h8, P, hP, hP0, hP1, HY⟩ | ⟨h8, P, hP, hP0, hP1, HY⟩
  all_goals
    rw [HY.out]
    go_wp2_with fail
    refine (var_any a0 _ hx.1 hx.2).mono ?_
    rintro e w4 ⟨v4, rfl, hown4, hb4⟩
    rw [HT.out] at hown4
    obtain ⟨a4, cap4, rfl, hm4⟩ := Bts.of_owns hown4 hbyt
    have hl4 := hl3.below hb4
    have hbb4 := bstep hb3 hb4
    clear hown4 hl3 hb4 hb3
    go_wp2_with fail
    refine (copy_any a4 t.length cap4 t _ hm4 (by omega)).mono ?_
    rintro e w5 ⟨v5, rfl, hown5, hb5⟩
    have hl5 := hl4.below hb5
    have hbb5 := bstep hbb4 hb5
    have hw0 := hbb4.size
    have hw4 := hb5.size
    clear hl4 hbb4 hm4
    cases a2 with
    | none =>
      have hc0 := hl5.nil rfl
      have hlc := hl5.le_cap
      have hll := hl5.len_eq
      obtain rfl : cap2 = 0 := hc0
      obtain rfl : len = 0 := by omega
      obtain rfl : m = [] := List.eq_nil_of_length_eq_zero hll
      go_wp2_with (at_builtin; refine wpList_append_own_none rfl _ _ 23 rfl w4.heap.size 5 i0 1 Try.underlying23 hi _ t.length (bv t) rfl hown5 rfl ?_)
      obtain ⟨a6, cap6, rfl, hm6⟩ := Bts.of_owns hown5 hbyt
      have HR2 : Hid (rd t 0 0 = (a0, (t.length : Int), 0)) := by have := HRD.out; rw [List.append_nil] at this; exact this
      clear hown5 hl5 hi hz0 hz1 hz2
      refine (readvar_any a6 t.length cap6 t _ hm6).mono ?_
      rintro e w' ⟨rfl, rfl⟩
      rw [HR2.out]
      unfold rdVal
      clear hm6
      go_wp2_with fail
      refine (lives_any _).mono ?_
      rintro e w7 ⟨rfl, hb7⟩
      go_wp2
      go_ret
      exact ⟨rfl, bstep hbb5 hb7⟩
    | some ad =>
      have hcells := hl5.cells
      have hll := hl5.len_eq
      go_wp2_with (at_builtin; refine wpList_append_own _ rfl _ _ 23 rfl w4.heap.size 5 i0 (.int .u8 0) 1 1 Try.underlying23 hi hz0 hz1 hz2 rfl (by decide) _ _ _ rfl hown5 ad len cap2 (bv m) rfl (by rw [bv_length]; omega) hcells (bv_one m) (by unfold maxLen; omega) (by omega) hw4 ?_)
      intro v6 w6 hown6 hgrow _
      have hb6 : Below w.heap.size w w6 := hbb5.grown hgrow hbb5.size (by intro g hg; exact Nat.le_trans hw0 (hown5.lt g hg).1)
      rw [← bv_append] at hown6
      obtain ⟨a6, cap6, rfl, hm6⟩ := Bts.of_owns hown6 (hbyt.append hl5.byt)
      clear hown5 hl5 hi hz0 hz1 hz2 hown6 hgrow hcells hbb5 hb5
      go_wp2_with fail
      refine (readvar_any a6 (t.length + len) cap6 (t ++ m) _ hm6).mono ?_
      rintro e w' ⟨rfl, rfl⟩
      rw [HRD.out]
      unfold rdVal
      clear hm6
      go_wp2_with fail
      refine (lives_any _).mono ?_
      rintro e w7 ⟨rfl, hb7⟩
      go_wp2
      go_ret
      exact ⟨rfl, bstep hb6 hb7⟩

/-! ### THE ROW's STEP: WRITTEN OUT: LEAVE IT -/
set_option maxRecDepth 100000 in
theorem lifted (os : Os) (started : os.Started) (H : Type) (enc : TypeId × Value → H) :
    ReturnsInHanded {} Try.checked os 8 .any (Rows.wordBackSpec.pre6 enc Try.prog Try.f8 Rows.wordBackRow.domain false) (Rows.wordBackSpec.post enc Try.prog Try.f8 false true false false) := by
  refine returnsInHanded_of_change (C := Try.checked) own started (by kernel_rfl) Try.func8
    (ChangeSpec.witness6 (enc := enc) (C := Try.checked) false ⟨#[], #[.int .u64 0, .int .i64 0, .slice none 0 0], []⟩ 8 (by kernel_rfl) (by kernel_rfl) (by kernel_rfl) (by kernel_rfl)) ?_
  intro W base args ds gs before hval0 hW hcnd _
  have hval : ∀ (j : Nat) t v, Try.f8.params[j]? = some t → args[j]? = some v → Value.okWide Try.prog W .any base t v := hval0
  have hW' := hW
  obtain ⟨p, q, hA0, hV, rfl, hfz, hnd⟩ := hW
  have hA : DataW.TrodAll enc Try.prog W 0 (fun _ => true) true Try.f8.params.toList args.toList ds p := hA0
  rw [Try.params8] at hA hval
  obtain ⟨v0, vs0, d0, ds0, p0, q0, hargs, rfl, rfl, h0, r0⟩ := trodAll_cons hA
  obtain ⟨v1, vs1, d1, ds1, p1, q1, rfl, rfl, rfl, h1, r1⟩ := trodAll_cons r0
  obtain ⟨v2, vs2, d2, ds2, p2, q2, rfl, rfl, rfl, h2, r2⟩ := trodAll_cons r1
  obtain ⟨rfl, rfl, rfl⟩ := trodAll_nil r2
  obtain rfl : args = #[v0, v1, v2] := by cases args; simp_all
  obtain ⟨rfl, rfl⟩ := trodVars_none hV
  obtain ⟨a0, rfl, rfl, rfl, w0⟩ := open_int Try.underlying22 (hval 0 22 v0 rfl rfl) h0
  obtain ⟨a1, rfl, rfl, rfl, w1⟩ := open_int Try.underlying3 (hval 1 3 v1 rfl rfl) h1
  obtain ⟨a2, len2, cap2, rfl⟩ := okWide_slice Try.underlying23 (hval 2 23 v2 rfl rfl)
  have k2 := h2
  have lt2 : ∀ x ∈ p2, x.block < W.heap.size := by obtain ⟨m, hm⟩ := k2; exact DataW.trod_lt m _ _ _ hm
  obtain ⟨z2, w2⟩ : ∃ zs, IsRow .u8 W a2 len2 cap2 zs := by
    obtain ⟨fuel, hf⟩ := h2
    rcases open_ints Try.underlying23 Try.underlying5 (by kernel_rfl) hf with ⟨hcs, _⟩ | ⟨x, l, c, zs, hcs, _, hl, hm, hz, _, hcell, hwz⟩
    · simp [Value.cells] at hcs
      obtain ⟨rfl, rfl, rfl⟩ := hcs
      exact ⟨[], .inl ⟨rfl, rfl, rfl, rfl⟩⟩
    · simp [Value.cells] at hcs
      obtain ⟨rfl, rfl, rfl⟩ := hcs
      exact ⟨zs, .inr ⟨_, rfl, hl, hm, by simpa using hz, hcell, hwz⟩⟩
  clear hA0 hval0
  refine (walk a0 a1 a2 len2 cap2 z2 W w0 w1 w2).mono fun e W' ⟨he, bel⟩ => ?_
  subst he
  exact ⟨_, rfl, _, _, _, [], _, [], hW', trodAll_mk1 (shut_bool Try.underlying4 _), (trodAll_cons_mk (shut_int Try.underlying22 w0) (trodAll_cons_mk (shut_int Try.underlying3 w1) (trodAll_cons_mk (Below.trod laidOut (by kernel_rfl) (of_decide_eq_true (by kernel_rfl)) k2 bel lt2) trodAll_mk0))), rfl, bel.frame _, fun h => by cases h⟩

theorem over : Rows.wordBackRow.holds Try.pinned (OpenSpec.ofChange Rows.wordBackSpec) :=
  OpenClaim.holds_of_wide 8 Try.f8 rfl rfl rfl rfl rfl rfl rfl ⟨rfl, rfl, rfl, rfl, rfl⟩ rfl rfl rfl rfl rfl (by kernel_rfl) Try.func8 (by kernel_rfl)
    (of_decide_eq_true (by kernel_rfl)) (by unfold Func.isWrapper; first | (rw [if_pos (by decide +kernel)]; kernel_rfl) | (rw [if_neg (by decide +kernel)]; exact ⟨rfl, rfl⟩))
    (fun os started H enc _ => lifted os started H enc)

/-- ████ THE STATEMENT ████ -/
theorem proved : Rows.WordBackSaid := over
end Go.Proofs.Ythlkdbfaelgadaa.wordBack
namespace Go.Proofs.Ythlkdbfaelgadaa
theorem wordBack_holds : Rows.WordBackSaid := wordBack.proved
#print axioms wordBack_holds
end Go.Proofs.Ythlkdbfaelgadaa
