/- For every slice of bytes and every two ints the law ChunkRoom returns true and the slice reads as it did (P12.1, P12.2): a body in chunks is refused just if it says more than it may. The library's tables are as the program's text lays them (the card ties them). -/
import Derived.Test.YtjlclgmbenhakaaDoorTDoor
import Derived.LaidMore
import Derived.Test.YtjlclgmbenhakaaDoorCPrint3
import Derived.Test.YtjlclgmbenhakaaDoorCLives
import Derived.Test.YtjlclgmbenhakaaDoorCut
import Derived.Test.YtjlclgmbenhakaaDoorSame
import Derived.Test.YtjlclgmbenhakaaDoorLeast
import Derived.WalkKit
import Derived.ShutString
import Derived.ChangeOld
import Derived.Below
namespace Go.Proofs.YtjlclgmbenhakaaDoor.chunkRoom
open Go.ChangeShapes Go.WideShapes Go.ChangeAt Go.RowKit
open Go.ChangeMaps (open_string shut_string)
set_option linter.unusedVariables false

theorem laidOut : laidOutB Tryd.prog = true := by kernel_rfl

/-- WHAT THE WALK IS TOLD OF A SLICE OF INTEGERS THAT CAME IN: it is nil; or it leads to a row of 'cap' cells, the numbers 'zs' (the first 'len' are its elements, the rest its spare room), each fitting its kind. -/
def IsRow (k : IntKind) (w : World) (a : Option Addr) (len cap : Nat) (zs : List Int) : Prop :=
  (a = none ∧ len = 0 ∧ cap = 0 ∧ zs = []) ∨
  ∃ x, a = some x ∧ len ≤ cap ∧ cap ≤ maxLen ∧ zs.length = cap ∧ (∀ i, i < zs.length → w.cell? (x.add i) = some (.int k (zs.getD i 0))) ∧ ∀ n ∈ zs, (Lit.int k n).wf = true


set_option maxRecDepth 100000 in
set_option maxHeartbeats 1000000 in
theorem walk (a0 : Option Addr) (len0 cap0 : Nat) (z0 : List Int) (a1 : Int) (a2 : Int) (w : World) (w0 : IsRow .u8 w a0 len0 cap0 z0) (w1 : (Lit.int .i64 a1).wf = true) (w2 : (Lit.int .i64 a2).wf = true) (hL : laidMetH Tryd.prog Rows.chunkRoomRow.laid w) (hsh : w.ShapedOpen Tryd.prog) :
    Calls Tryd.prog 5 #[.slice a0 len0 cap0, .int .i64 a1, .int .i64 a2] w fun e w' => e = .returned (.bool true) ∧ Below w.heap.size w w' := by
  have HBR := Bx.mk (bru_at (plainH hL (by kernel_rfl)) 1 rfl)
  clear hL hsh
  have hrow : Bts w a0 len0 cap0 (z0.take len0) := Bts.of_row w0
  generalize z0.take len0 = l at hrow
  clear w0
  have hs := least_bd a1 1 2048 (by decide)
  have hmo := least_bd a2 0 2048 (by decide)
  go_enter Tryd.func5, Tryd.ntmps5
  go_wp2_with fail
  refine (cut_any a0 len0 cap0 2048 l _ hrow (by decide)).mono ?_
  rintro e w' ⟨⟨len, rfl, hl⟩, rfl⟩
  have hlen : len ≤ 2048 := by have := hl.len_eq; rw [List.length_take] at this; omega
  generalize l.take 2048 = m at hl
  have HL := Bx.mk hl
  have hml := hl.len_eq
  clear hrow hl
  go_wp2_with fail
  refine (least_any a1 1 2048 _).mono ?_
  rintro e w' ⟨rfl, rfl⟩
  go_wp2_with fail
  refine (least_any a2 0 2048 _).mono ?_
  rintro e w' ⟨rfl, rfl⟩
  obtain ⟨sz, hsz⟩ : ∃ s : Nat, leastV a1 1 2048 = (s : Int) := ⟨(leastV a1 1 2048).toNat, by omega⟩
  obtain ⟨mo, hmoe⟩ : ∃ s : Nat, leastV a2 0 2048 = (s : Int) := ⟨(leastV a2 0 2048).toNat, by omega⟩
  rw [hsz] at hs ⊢
  rw [hmoe] at hmo ⊢
  have HP := Bx.mk (cprint_any a0 len cap0 (sz : Int) m w HL.out HBR.out)
  rw [pnE_ok (by omega) (by omega) (by omega), pnL_ok (by omega) (by omega) (by omega)] at HP
  have HBYP : Bx (Byt (prL sz m)) := ⟨prL_byt sz (by omega) m.length m (Nat.le_refl _) HL.out.byt⟩
  have HWV : Bx (whV (mo : Int) (prL sz m) = if mo < len then ([], 0, 5) else (m, (prL sz m).length, 0)) := ⟨by
    unfold whV
    rw [if_neg (by omega)]
    have e1 : prL sz m = prL sz m ++ [] := by simp
    split
    · have h1 := pr_big mo sz (by omega) [] m.length m [] 0 (Nat.le_refl _) (by simp) (by simp; omega)
      rw [← e1] at h1
      exact h1
    · have h1 := pr_run mo sz (by omega) [] m.length m [] 0 (Nat.le_refl _) (by simp; omega)
      rw [← e1] at h1
      rw [show (mo : Int).toNat = mo from by omega, h1]; simp⟩
  clear hsz hmoe
  go_wp2_with fail
  refine HP.out.mono ?_
  rintro e w2 ⟨v2, rfl, ho2, hb2⟩
  obtain ⟨b2, c2, hv2, hq2⟩ := Bts.of_owns ho2 HBYP.out
  subst hv2
  have HQ2 := Bx.mk hq2
  have HB2 := Bx.mk hb2
  obtain ⟨np, hnp⟩ : ∃ n, n = (prL sz m).length := ⟨_, rfl⟩
  rw [← hnp] at HQ2 ⊢
  have HCW := Bx.mk (cwhole_any b2 np c2 (prL sz m) (mo : Int) w2 HQ2.out)
  have HML := Bx.mk hml
  clear ho2 hb2 hq2 HP hnp hml
  by_cases hbig : mo < len
  · rw [HWV.out, if_pos hbig] at HCW
    have g1 : decide (mo < len) = true := by simpa using hbig
    clear HWV hbig
    go_wp2_with fail
    refine HCW.out.mono ?_
    rintro e w3 ⟨v3, rfl, ho3, hb3⟩
    obtain ⟨b3, c3, hv3, _⟩ := Bts.of_owns (l := []) ho3 Byt.nil
    subst hv3
    have HB3 := Bx.mk (bstep HB2.out hb3)
    clear ho3 hb3
    go_wp2_with fail
    refine (lives_any _).mono ?_
    rintro e w6 ⟨rfl, hb6⟩
    have HFIN := Bx.mk (bstep HB3.out hb6)
    clear hb6
    go_wp2
    go_ret
    exact ⟨rfl, HFIN.out⟩
  · rw [HWV.out, if_neg hbig] at HCW
    have g1 : decide (mo < len) = false := by simpa using hbig
    clear HWV hbig
    go_wp2_with fail
    refine HCW.out.mono ?_
    rintro e w3 ⟨v3, rfl, ho3, hb3⟩
    have ho4 : w3.ownsRow w2.heap.size 5 1 v3 m.length (bv m) := ho3
    rw [HML.out] at ho4
    obtain ⟨b3, c3, hv3, hq3⟩ := Bts.of_owns ho4 HL.out.byt
    subst hv3
    have HB3 := Bx.mk (bstep HB2.out hb3)
    have HS := Bx.mk (same_yes b3 a0 len len c3 cap0 m _ hq3 (HL.out.below HB3.out))
    clear ho3 ho4 hb3 hq3
    go_wp2_with fail
    refine HS.out.mono ?_
    rintro e w4 ⟨rfl, q, rfl⟩
    go_wp2_with fail
    refine (lives_any _).mono ?_
    rintro e w6 ⟨rfl, hb6⟩
    have HFIN := Bx.mk (bstep (below_drewN HB3.out q) hb6)
    clear hb6
    go_wp2
    go_ret
    exact ⟨rfl, HFIN.out⟩

set_option maxRecDepth 100000 in
/-- what the walk gives, for every argument and every world that holds the table -/
theorem contract (H : Type) (enc : TypeId × Value → H) (W : World) (base : Nat) (args : Array Value) (ds gs : List (DataW H)) (before : List MemPlace)
    (hval0 : ∀ (j : Nat) t v, Tryd.f5.params[j]? = some t → args[j]? = some v → Value.okWide Tryd.prog W .any base t v)
    (hW : DataW.Whole enc Tryd.prog Tryd.f5.params.toList Rows.chunkRoomSpec.vars false W args.toList ds gs before) (hL : laidMetH Tryd.prog Rows.chunkRoomRow.laid W) (hsh : W.ShapedOpen Tryd.prog) :
    Calls Tryd.prog 5 args W fun e W' => ∃ v, e = .returned v ∧ Rows.chunkRoomSpec.post enc Tryd.prog Tryd.f5 false true false false W args v W' := by
  have hval : ∀ (j : Nat) t v, Tryd.f5.params[j]? = some t → args[j]? = some v → Value.okWide Tryd.prog W .any base t v := hval0
  have hW' := hW
  obtain ⟨p, q, hA0, hV, rfl, hfz, hnd⟩ := hW
  have hA : DataW.TrodAll enc Tryd.prog W 0 (fun _ => true) true Tryd.f5.params.toList args.toList ds p := hA0
  rw [Tryd.params5] at hA hval
  obtain ⟨v0, vs0, d0, ds0, p0, q0, hargs, rfl, rfl, h0, r0⟩ := trodAll_cons hA
  obtain ⟨v1, vs1, d1, ds1, p1, q1, rfl, rfl, rfl, h1, r1⟩ := trodAll_cons r0
  obtain ⟨v2, vs2, d2, ds2, p2, q2, rfl, rfl, rfl, h2, r2⟩ := trodAll_cons r1
  obtain ⟨rfl, rfl, rfl⟩ := trodAll_nil r2
  obtain rfl : args = #[v0, v1, v2] := by cases args; simp_all
  obtain ⟨rfl, rfl⟩ := trodVars_none hV
  obtain ⟨a0, len0, cap0, rfl⟩ := okWide_slice Tryd.underlying22 (hval 0 22 v0 rfl rfl)
  have k0 := h0
  have lt0 : ∀ x ∈ p0, x.block < W.heap.size := by obtain ⟨m, hm⟩ := k0; exact DataW.trod_lt m _ _ _ hm
  obtain ⟨z0, w0⟩ : ∃ zs, IsRow .u8 W a0 len0 cap0 zs := by
    obtain ⟨fuel, hf⟩ := h0
    rcases open_ints Tryd.underlying22 Tryd.underlying5 (by kernel_rfl) hf with ⟨hcs, _⟩ | ⟨x, l, c, zs, hcs, _, hl, hm, hz, _, hcell, hwz⟩
    · simp [Value.cells] at hcs
      obtain ⟨rfl, rfl, rfl⟩ := hcs
      exact ⟨[], .inl ⟨rfl, rfl, rfl, rfl⟩⟩
    · simp [Value.cells] at hcs
      obtain ⟨rfl, rfl, rfl⟩ := hcs
      exact ⟨zs, .inr ⟨_, rfl, hl, hm, by simpa using hz, hcell, hwz⟩⟩
  obtain ⟨a1, rfl, rfl, rfl, w1⟩ := open_int Tryd.underlying3 (hval 1 3 v1 rfl rfl) h1
  obtain ⟨a2, rfl, rfl, rfl, w2⟩ := open_int Tryd.underlying3 (hval 2 3 v2 rfl rfl) h2
  clear hA0 hval0
  refine (walk a0 len0 cap0 z0 a1 a2 W w0 w1 w2 hL hsh).mono fun e W' ⟨he, bel⟩ => ?_
  subst he
  exact ⟨_, rfl, _, _, _, [], _, [], hW', trodAll_mk1 (shut_bool Tryd.underlying4 _), (trodAll_cons_mk (Below.trod laidOut (by kernel_rfl) (of_decide_eq_true (by kernel_rfl)) k0 bel lt0) (trodAll_cons_mk (shut_int Tryd.underlying3 w1) (trodAll_cons_mk (shut_int Tryd.underlying3 w2) trodAll_mk0))), rfl, bel.frame _, fun h => by cases h⟩

set_option maxRecDepth 100000 in
theorem laid_met (os : Os) : laidMet Tryd.prog Rows.chunkRoomRow.laid ((World.doorLaid Tryd.prog 2000 os).forCall (fun _ _ => 0) ⟨#[], #[.slice none 0 0, .int .i64 0, .int .i64 0], []⟩).memory :=
  laidMet_of_run' 8 (by kernel_rfl) (by kernel_rfl)
set_option maxRecDepth 100000 in
theorem reads (os : Os) {H : Type} (enc : TypeId × Value → H) : ∃ places, DataW.whole enc Tryd.prog ((World.doorLaid Tryd.prog 2000 os).forCall (fun _ _ => 0) ⟨#[], #[.slice none 0 0, .int .i64 0, .int .i64 0], []⟩).memory Tryd.f5.params.toList Rows.chunkRoomSpec.vars false (#[.slice none 0 0, .int .i64 0, .int .i64 0] : Array Value).toList 8 = some ([.nil, .lit (.int .i64 0), .lit (.int .i64 0)], [], places) :=
  ⟨[], by kernel_rfl⟩
set_option maxRecDepth 100000 in
theorem lifted (os : Os) (started : os.Started) (H : Type) (enc : TypeId × Value → H) (F : Stop.Interp) :
    ReturnsInHanded {} Tryd.checked os 5 .any ((OpenSpec.ofChange Rows.chunkRoomSpec).preRow enc Tryd.prog Tryd.f5 Rows.chunkRoomRow.domain false Rows.chunkRoomRow.laid) (((OpenSpec.ofChange Rows.chunkRoomSpec).at F).post enc Tryd.prog Tryd.f5 false true false false) := by
  obtain ⟨places, hx⟩ := reads os enc
  refine returnsInHanded_of_row (C := Tryd.checked) (s := OpenSpec.ofChange Rows.chunkRoomSpec) own started (by kernel_rfl) Tryd.func5
    (witness_row_at (enc := enc) (C := Tryd.checked) false (World.doorLaid Tryd.prog 2000 os) #[.slice none 0 0, .int .i64 0, .int .i64 0] rfl (by kernel_rfl) (by kernel_rfl) (by kernel_rfl)
      (OpenSpec.preRow_of_cond 8 hx (by kernel_rfl) (fun k hk => by cases hk) (by kernel_rfl) (laid_met os))) ?_
  intro W base args ds gs before hval hW _ _ _ hL hsh _
  exact contract H enc W base args ds gs before hval hW hL hsh
theorem said : Rows.ChunkRoomSaid :=
  OpenClaim.holds_of_cond 5 Tryd.f5 rfl rfl rfl rfl rfl rfl rfl ⟨rfl, rfl, rfl, rfl, rfl⟩ rfl rfl rfl rfl rfl (by kernel_rfl) Tryd.func5 (by kernel_rfl)
    (of_decide_eq_true (by kernel_rfl)) (by unfold Func.isWrapper; first | (rw [if_pos (by decide +kernel)]; kernel_rfl) | (rw [if_neg (by decide +kernel)]; exact ⟨rfl, rfl⟩))
    (fun os started H enc _ F => by rw [OpenClaim.pre_eq_preRow]; exact lifted os started H enc F)
theorem plain (f : FuncId) (fn : Func) (hf : Tryd.pinned.checked.prog.funcNamed "inquest/inquestlaw12.ChunkRoom" = some f) (hfn : Tryd.pinned.checked.prog.funcs[f]? = some fn) :
    false = Tryd.pinned.checked.prog.looks [] ∧ ∀ (j : Nat) t, fn.params[j]? = some t → Tryd.pinned.checked.prog.wantsStandIn t = false := by
  obtain rfl : f = 5 := Option.some.inj ((show Tryd.prog.funcNamed "inquest/inquestlaw12.ChunkRoom" = some 5 by kernel_rfl).symm.trans hf) |>.symm
  obtain rfl : fn = Tryd.f5 := (Option.some.inj (Tryd.func5.symm.trans hfn)).symm
  refine ⟨by kernel_rfl, fun j t ht => ?_⟩
  rw [Tryd.params5] at ht
  have hall : ([22, 3, 3].all fun u => !Tryd.prog.wantsStandIn u) = true := by kernel_rfl
  have hm : t ∈ [22, 3, 3] := by simpa using Array.mem_of_getElem? ht
  exact (show Tryd.prog.wantsStandIn t = false by simpa using List.all_eq_true.1 hall t hm)
/-- the tied card -/
theorem card : Rows.ChunkRoomCardSaid :=
  Claim7.holds_tied_plain_at .later [] _ _ _ _ said (fun _ h => by cases h) (by kernel_rfl) (fun _ h => by cases h) chunkRoom_row_tie rfl ⟨rfl, rfl⟩ (by kernel_rfl) rfl plain (by kernel_rfl)
end Go.Proofs.YtjlclgmbenhakaaDoor.chunkRoom
namespace Go.Proofs.YtjlclgmbenhakaaDoor
theorem chunkRoom_holds : Rows.ChunkRoomCardSaid := chunkRoom.card
#print axioms chunkRoom_holds
end Go.Proofs.YtjlclgmbenhakaaDoor
