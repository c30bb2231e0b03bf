/- For every call k the law DiskNobody returns true and k reads as it did (P9.5): a nil disk and a zero disk answer ErrNil, nothing, 0, false. No condition. -/
import Derived.Test.YtihmfnndnjhpbaaRows
import Derived.Test.YtihmfnndnjhpbaaLaw9
import Derived.Test.YtihmfnndnjhpbaaCut
import Derived.WalkKit
import Derived.ProofKit
import Derived.OpenShut
import Derived.ShutString
import Derived.ChangeOld
import Derived.Below
namespace Go.Proofs.Ytihmfnndnjhpbaa.diskNobody
open Go.ChangeShapes Go.WideShapes Go.ChangeAt Go.RowKit
open Go.ChangeMaps (open_string shut_string)
set_option linter.unusedVariables false

theorem own : ownKnob Try.prog.godebug = none := by kernel_rfl
theorem laidOut : laidOutB Try.prog = true := by kernel_rfl

/-- the cells of the law's own variable -/
structure KV (w wr : World) (x : Int) : Prop where
  low : Below w.heap.size w wr
  pos : wr.cell? ⟨w.heap.size, 1, none⟩ = some (.int .i64 x)
  lt : w.heap.size < wr.heap.size
theorem KV.step {w wr w1 : World} {x : Int} (h : KV w wr x) (hb : Below wr.heap.size wr w1) : KV w w1 x :=
  ⟨h.low.trans (hb.mono (Nat.le_of_lt h.lt)), (hb.cell h.lt).trans h.pos, Nat.lt_of_lt_of_le h.lt hb.size⟩

set_option maxRecDepth 100000 in
set_option maxHeartbeats 1000000 in
theorem walk (k : DoM) (a2 : Option Addr) (l2 c2 : Nat) (a3 : Option Addr) (l3 c3 : Nat) (w : World) (hk : DoV w k a2 l2 c2 a3 l3 c3) :
    Calls Try.prog 7 #[.agg #[.int .i64 k.kind, .int .i64 k.pos, .slice a2 l2 c2, .slice a3 l3 c3]] w fun e w' => e = .returned (.bool true) ∧ Below w.heap.size w w' := by
  obtain ⟨kd, x, b, K⟩ := k
  have hb := hk.b
  have hK0 : KV w (w.alloc (.cells #[.int .i64 kd, .int .i64 x, .slice a2 l2 c2, .slice a3 l3 c3] 36)) x :=
    ⟨(Below.refl _ _).alloc (Nat.le_refl _) _, by rw [cell_of_row _ _ 1 _ _ (0, 0) (heap_alloc_new w _)]; rfl, by simp⟩
  have hb0 : Bts (w.alloc (.cells #[.int .i64 kd, .int .i64 x, .slice a2 l2 c2, .slice a3 l3 c3] 36)) a2 l2 c2 b := hb.below hK0.low
  clear hk hb
  dsimp only
  go_enter Try.func7, Try.ntmps7
  go_wp2_with fail
  refine (cut_any a2 l2 c2 100 b _ hb0 (by decide)).mono ?_
  rintro e w' ⟨⟨m, rfl, _⟩, rfl⟩
  generalize w.alloc (.cells #[.int .i64 kd, .int .i64 x, .slice a2 l2 c2, .slice a3 l3 c3] 36) = w0 at hK0 hb0 ⊢
  clear hb0
  go_wp2
  go_loopw [4] (fun i wr => ∃ j : Nat, j ≤ 2 ∧ i = .int .i64 j ∧ KV w wr x) (fun i _ => 2 - (intOf i).toNat)
  case atStart => exact ⟨0, by decide, rfl, hK0⟩
  case round =>
    clear hK0
    obtain ⟨j, hj, rfl, hV⟩ := hrel
    by_cases hlt : j < 2
    · have hjI : (j : Int) < 2 := by omega
      by_cases h1 : j = 1
      · subst h1
        have hb1 : Below wr.heap.size wr (wr.alloc (.cells #[.slice none 0 0, .slice none 0 0, .slice none 0 0, .bool false, .int .i64 0, .bool false] 61)) := (Below.refl _ _).alloc (Nat.le_refl _) _
        have hV1 := hV.step hb1
        have hNo : NoD (wr.alloc (.cells #[.slice none 0 0, .slice none 0 0, .slice none 0 0, .bool false, .int .i64 0, .bool false] 61)) (some ⟨wr.heap.size, 0, none⟩) := .inr ⟨wr.heap.size, rfl, by rw [cell_of_row _ _ 0 _ _ (0, 0) (heap_alloc_new wr _)]; rfl⟩
        have cp := hV1.pos
        have HNO : Bx _ := ⟨hNo⟩
        have HV1 : Bx _ := ⟨hV1⟩
        clear hV hb1 hV1 hNo
        go_wp2_with fail
        generalize wr.alloc (.cells #[.slice none 0 0, .slice none 0 0, .slice none 0 0, .bool false, .int .i64 0, .bool false] 61) = w1 at HNO HV1 cp ⊢
        generalize wr.heap.size = g at HNO ⊢
        refine (read_no _ x _ HNO.out).mono ?_
        rintro e w' ⟨rfl, rfl⟩
        go_wp2_with fail
        refine (write_no _ x _ _ HNO.out).mono ?_
        rintro e w' ⟨rfl, rfl⟩
        go_wp2_with fail
        refine (sync_no _ _ HNO.out).mono ?_
        rintro e w' ⟨rfl, rfl⟩
        go_wp2_with fail
        refine (arm_no _ x _ HNO.out).mono ?_
        rintro e w' ⟨rfl, rfl⟩
        go_wp2_with fail
        refine (crash_no _ _ _ HNO.out).mono ?_
        rintro e w' ⟨rfl, rfl⟩
        go_wp2_with fail
        refine (sectors_no _ _ HNO.out).mono ?_
        rintro e w' ⟨rfl, rfl⟩
        go_wp2_with fail
        refine (open_no _ _ HNO.out).mono ?_
        rintro e w' ⟨rfl, rfl⟩
        go_wp2_with fail
        refine (off_no _ _ HNO.out).mono ?_
        rintro e w' ⟨rfl, rfl⟩
        go_wp2
        go_roundw
        case rel => exact ⟨1 + 1, by omega, by go_num, HV1.out⟩
        case measure => simp [intOf]
      · obtain rfl : j = 0 := by omega
        have hNo : NoD wr none := .inl rfl
        have cp := hV.pos
        have HNO : Bx _ := ⟨hNo⟩
        have HV1 : Bx _ := ⟨hV⟩
        clear hV hNo
        go_wp2_with fail
        refine (read_no _ x _ HNO.out).mono ?_
        rintro e w' ⟨rfl, rfl⟩
        go_wp2_with fail
        refine (write_no _ x _ _ HNO.out).mono ?_
        rintro e w' ⟨rfl, rfl⟩
        go_wp2_with fail
        refine (sync_no _ _ HNO.out).mono ?_
        rintro e w' ⟨rfl, rfl⟩
        go_wp2_with fail
        refine (arm_no _ x _ HNO.out).mono ?_
        rintro e w' ⟨rfl, rfl⟩
        go_wp2_with fail
        refine (crash_no _ _ _ HNO.out).mono ?_
        rintro e w' ⟨rfl, rfl⟩
        go_wp2_with fail
        refine (sectors_no _ _ HNO.out).mono ?_
        rintro e w' ⟨rfl, rfl⟩
        go_wp2_with fail
        refine (open_no _ _ HNO.out).mono ?_
        rintro e w' ⟨rfl, rfl⟩
        go_wp2_with fail
        refine (off_no _ _ HNO.out).mono ?_
        rintro e w' ⟨rfl, rfl⟩
        go_wp2
        go_roundw
        case rel => exact ⟨0 + 1, by omega, by go_num, HV1.out⟩
        case measure => simp [intOf]
    · obtain rfl : j = 2 := by omega
      have hlow := hV.low
      have hsz := hV.lt
      clear hV
      go_wp2_with fail
      refine (lives_any _).mono ?_
      rintro e w2 ⟨rfl, hb2⟩
      go_wp2
      go_ret
      exact ⟨rfl, bstep hlow hb2⟩

set_option maxRecDepth 100000 in
theorem lifted (os : Os) (started : os.Started) (H : Type) (enc : TypeId × Value → H) :
    ReturnsInHanded {} Try.checked os 7 .any (Rows.diskNobodySpec.pre6 enc Try.prog Try.f7 Rows.diskNobodyRow.domain false) (Rows.diskNobodySpec.post enc Try.prog Try.f7 false true false false) := by
  refine returnsInHanded_of_change (C := Try.checked) own started (by kernel_rfl) Try.func7
    (ChangeSpec.witness6 (enc := enc) (C := Try.checked) false ⟨#[], #[.agg #[.int .i64 0, .int .i64 0, .slice none 0 0, .slice none 0 0]], []⟩ 8 (by kernel_rfl) (by kernel_rfl) (by kernel_rfl) (by kernel_rfl)) ?_
  intro W base args ds gs before hval0 hW hcnd _
  have hval : ∀ (j : Nat) t v, Try.f7.params[j]? = some t → args[j]? = some v → Value.okWide Try.prog W .any base t v := hval0
  have hW' := hW
  obtain ⟨p, q, hA0, hV, rfl, hfz, hnd⟩ := hW
  have hA : DataW.TrodAll enc Try.prog W 0 (fun _ => true) true Try.f7.params.toList args.toList ds p := hA0
  rw [Try.params7] at hA hval
  obtain ⟨v0, vs0, d0, ds0, p0, q0, hargs, rfl, rfl, h0, r0⟩ := trodAll_cons hA
  obtain ⟨rfl, rfl, rfl⟩ := trodAll_nil r0
  obtain rfl : args = #[v0] := by cases args; simp_all
  obtain ⟨rfl, rfl⟩ := trodVars_none hV
  have k0 := h0
  have lt0 : ∀ x ∈ p0, x.block < W.heap.size := by obtain ⟨m, hm⟩ := k0; exact DataW.trod_lt m _ _ _ hm
  obtain ⟨k, a2, l2, c2, a3, l3, c3, rfl, hk⟩ := open_do (hval 0 36 v0 rfl rfl) h0
  clear hA0 hval0
  refine (walk k a2 l2 c2 a3 l3 c3 W hk).mono fun e W' ⟨he, bel⟩ => ?_
  subst he
  exact ⟨_, rfl, _, _, _, [], _, [], hW', trodAll_mk1 (shut_bool Try.underlying4 _), (trodAll_cons_mk (Below.trod laidOut (by kernel_rfl) (of_decide_eq_true (by kernel_rfl)) k0 bel lt0) trodAll_mk0), rfl, bel.frame _, fun h => by cases h⟩

theorem over : Rows.diskNobodyRow.holds Try.pinned (OpenSpec.ofChange Rows.diskNobodySpec) :=
  OpenClaim.holds_of_wide 7 Try.f7 rfl rfl rfl rfl rfl rfl rfl ⟨rfl, rfl, rfl, rfl, rfl⟩ rfl rfl rfl rfl rfl (by kernel_rfl) Try.func7 (by kernel_rfl)
    (of_decide_eq_true (by kernel_rfl)) (by unfold Func.isWrapper; first | (rw [if_pos (by decide +kernel)]; kernel_rfl) | (rw [if_neg (by decide +kernel)]; exact ⟨rfl, rfl⟩))
    (fun os started H enc _ => lifted os started H enc)

/-- the statement -/
theorem proved : Rows.DiskNobodySaid := over
end Go.Proofs.Ytihmfnndnjhpbaa.diskNobody
namespace Go.Proofs.Ytihmfnndnjhpbaa
theorem diskNobody_holds : Rows.DiskNobodySaid := diskNobody.proved
#print axioms diskNobody_holds
end Go.Proofs.Ytihmfnndnjhpbaa
