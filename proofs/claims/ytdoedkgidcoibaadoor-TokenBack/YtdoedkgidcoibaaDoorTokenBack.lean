/- For every slice of bytes, every text and every two ints the law TokenBack returns true and the slice reads as it did (P5.3): by keys and names of up to 300 bytes, what is minted is opened until its time is come, and not from then on. The library's and the package's tables and errors are as the program's text lays them (the card ties them). -/
import Derived.Test.YtdoedkgidcoibaaDoorTDoor
import Derived.LaidMore
import Derived.Test.YtdoedkgidcoibaaDoorSDoor
import Derived.Test.YtdoedkgidcoibaaDoorTLives
import Derived.Test.YtdoedkgidcoibaaDoorOpen
import Derived.Test.YtdoedkgidcoibaaDoorPasses
import Derived.Test.YtdoedkgidcoibaaDoorTokFacts
import Derived.Test.YtdoedkgidcoibaaDoorSma
import Derived.Test.YtdoedkgidcoibaaDoorSCut
import Derived.WalkKit
import Derived.ShutString
import Derived.ChangeOld
import Derived.Below
namespace Go.Proofs.YtdoedkgidcoibaaDoor.tokenBack
open Go.ChangeShapes Go.WideShapes Go.ChangeAt Go.RowKit
open Go.ChangeMaps (open_string shut_string)
set_option linter.unusedVariables false

theorem laidOut : laidOutB Tryd.prog = true := by kernel_rfl

/-- WHAT THE WALK IS TOLD OF A SLICE OF INTEGERS THAT CAME IN: it is nil; or it leads to a row of 'cap' cells, the numbers 'zs' (the first 'len' are its elements, the rest its spare room), each fitting its kind. -/
def IsRow (k : IntKind) (w : World) (a : Option Addr) (len cap : Nat) (zs : List Int) : Prop :=
  (a = none ∧ len = 0 ∧ cap = 0 ∧ zs = []) ∨
  ∃ x, a = some x ∧ len ≤ cap ∧ cap ≤ maxLen ∧ zs.length = cap ∧ (∀ i, i < zs.length → w.cell? (x.add i) = some (.int k (zs.getD i 0))) ∧ ∀ n ∈ zs, (Lit.int k n).wf = true


set_option maxRecDepth 100000 in
set_option maxHeartbeats 1000000 in
theorem walk (a0 : Option Addr) (len0 cap0 : Nat) (z0 : List Int) (a1 : ByteArray) (a2 : Int) (a3 : Int) (w : World) (w0 : IsRow .u8 w a0 len0 cap0 z0) (w1 : a1.size ≤ maxLen) (w2 : (Lit.int .i64 a2).wf = true) (w3 : (Lit.int .i64 a3).wf = true) (hL : laidMetH Tryd.prog Rows.tokenBackRow.laid w) (hsh : w.ShapedOpen Tryd.prog) :
    Calls Tryd.prog 5 #[.slice a0 len0 cap0, .string a1, .int .i64 a2, .int .i64 a3] w fun e w' => e = .returned (.bool true) ∧ Below w.heap.size w w' := by
  have hL' := plainH hL (by kernel_rfl)
  have hl : LayE w := ⟨⟨tab_at hL' 5 rfl, tens_at hL' 2 rfl⟩, errs_at hL' 3 4 rfl rfl⟩
  clear hL hL' hsh
  have hs1 : a1.size ≤ 9223372036854775807 := w1
  have wi : -9223372036854775808 ≤ a2 ∧ a2 ≤ 9223372036854775807 := by
    simp [Lit.wf] at w2; exact w2
  have r0 : Bts w a0 len0 cap0 (z0.take len0) := Bts.of_row w0
  generalize z0.take len0 = l0 at r0
  clear w0 w1 w2 w3
  go_enter Tryd.func5, Tryd.ntmps5
  go_wp2_with fail
  refine (cut_any a0 len0 cap0 300 l0 _ r0 (by decide)).mono ?_
  rintro e wz ⟨⟨n0, rfl, h0⟩, hwz⟩
  obtain rfl : w = wz := hwz
  go_wp2_with fail
  refine (scut_any a1 300 _ hs1).mono ?_
  rintro e wz ⟨⟨n, rfl, hn⟩, hwz⟩
  obtain rfl : w = wz := hwz.symm
  clear hwz
  have hn0 : n0 ≤ 300 := by have := h0.len_eq; rw [List.length_take] at this; omega
  generalize l0.take 300 = k at h0
  clear r0 hs1
  go_wp2_with fail
  refine (mint_any _ _ _ k n a2 _ h0 hn0 hn wi.1 wi.2 hl.lay).mono ?_
  rintro e w1 ⟨rfl, hb1⟩
  replace h0 := h0.below hb1
  replace hl := hl.below hb1
  cases hok : mOk n a2 with
  | false =>
    have e1 := (mint_no (k := k) hok).1
    have e2 := (mint_no (k := k) hok).2
    rw [← e1, ← e2]
    have hno : a2 < 0 ∨ 1099511627776 < a2 ∨ nameB n = false := by
      unfold mOk tmB at hok
      by_cases h1 : a2 < 0
      · exact .inl h1
      · by_cases h2 : 1099511627776 < a2
        · exact .inr (.inl h2)
        · refine .inr (.inr ?_)
          cases hN : nameB n with
          | false => rfl
          | true => rw [hN] at hok; simp at hok; omega
    clear e1 e2 hok h0
    have q1 : ((⟨#[]⟩ : ByteArray).toList == (⟨#[]⟩ : ByteArray).toList) = true := by simp
    by_cases h1 : a2 < 0
    · have g1 : decide (a2 < 0) = true := by simpa using h1
      clear hno
      go_wp2_with fail
      refine (lives_any _ hl.lay).mono ?_
      rintro e w9 ⟨rfl, hb9⟩
      replace hb9 := bstep hb1 hb9
      clear hl hb1
      go_wp2
      go_ret
      exact ⟨rfl, hb9⟩
    · have g1 : decide (a2 < 0) = false := by simpa using h1
      by_cases h2 : 1099511627776 < a2
      · have g2 : decide (1099511627776 < a2) = true := by simpa using h2
        clear hno
        go_wp2_with fail
        refine (lives_any _ hl.lay).mono ?_
        rintro e w9 ⟨rfl, hb9⟩
        replace hb9 := bstep hb1 hb9
        clear hl hb1
        go_wp2
        go_ret
        exact ⟨rfl, hb9⟩
      · have g2 : decide (1099511627776 < a2) = false := by simp; omega
        have hN : nameB n = false := by
          rcases hno with h | h | h
          · exact absurd h h1
          · exact absurd h h2
          · exact h
        clear hno
        go_wp2_with fail
        refine (refname_any n _ (by omega)).mono ?_
        rintro e wz ⟨rfl, hwz⟩
        obtain rfl : w1 = wz := hwz.symm
        clear hwz
        rw [hN]
        clear hN
        go_wp2_with fail
        refine (lives_any _ hl.lay).mono ?_
        rintro e w9 ⟨rfl, hb9⟩
        replace hb9 := bstep hb1 hb9
        clear hl hb1
        go_wp2
        go_ret
        exact ⟨rfl, hb9⟩
  | true =>
    obtain ⟨e1, e2⟩ := mint_yes (k := k) hok
    rw [e1, e2]
    obtain ⟨z1, z2⟩ := tok_size (k := k) hok
    have HC : Hid (rN (tokB k n a2) = n ∧ rV (tokB k n a2) = a2 ∧ cE (tokB k n a2) = 0) := tok_claim hok
    have HO8 : Hid (a2 ≤ a3 → opn k (tokB k n a2) a3 = (⟨#[]⟩, 0, 8)) := fun h => opn_over (tok_read hok) rfl h
    have HO0 : Hid (a3 < a2 → opn k (tokB k n a2) a3 = (n, a2, 0)) := fun h => opn_good (tok_read hok) rfl (by omega)
    clear e1 e2 hok
    generalize tokB k n a2 = s at z1 z2 HC HO8 HO0
    go_wp2_with fail
    refine (open_any _ _ _ k s a3 _ h0 hn0 z2 hl).mono ?_
    rintro e w2 ⟨rfl, hb2⟩
    replace hl := hl.below hb2
    replace hb2 := bstep hb1 hb2
    clear hb1 h0
    by_cases hnow : a2 ≤ a3
    · rw [HO8.out hnow]
      simp only []
      clear HO8 HO0
      obtain ⟨pa, hbp⟩ := pb_new w2 ⟨#[]⟩ 0
      replace hl := hl.below hbp
      replace hb2 := bstep hb2 hbp
      clear hbp
      obtain ⟨B1, hB1⟩ : ∃ B, B = w2.heap.size := ⟨_, rfl⟩
      rw [← hB1] at pa
      obtain ⟨W1, hW1⟩ : ∃ W, W = w2.alloc (.cells #[.string ⟨#[]⟩, .int .i64 0] 35) := ⟨_, rfl⟩
      rw [← hW1] at pa hl hb2
      obtain ⟨pb, hbq⟩ := pb_new W1 n a2
      replace pa := pa.below hbq
      replace hl := hl.below hbq
      replace hb2 := bstep hb2 hbq
      clear hbq
      have hB2 : W1.heap.size = B1 + 1 := by rw [hW1, hB1]; simp
      rw [hB2] at pb
      have HB1 : Hid (w2.heap.size = B1) := hB1.symm
      have HW1 : Hid (w2.alloc (.cells #[.string ⟨#[]⟩, .int .i64 0] 35) = W1) := hW1.symm
      clear hB1 hB2 hW1
      go_wp2_with fail
      rw [HW1.out, HB1.out]
      generalize hW2 : W1.alloc (.cells #[.string n, .int .i64 a2] 35) = W2 at pa pb hl hb2 ⊢
      generalize B1 + 1 = B2 at pb ⊢
      clear hW2 HW1 HB1
      refine (claim_any s _ z2 hl).mono ?_
      rintro e w5 ⟨rfl, hb5⟩
      rw [HC.out.1, HC.out.2.1, HC.out.2.2]
      obtain ⟨pc, hbr⟩ := pb_new w5 n a2
      replace hbr := bstep hb5 hbr
      replace pa := pa.below hbr
      replace pb := pb.below hbr
      replace hl := hl.below hbr
      replace hb2 := bstep hb2 hbr
      clear hbr HC
      have x0 := pa.at0
      have x1 := pa.at1
      have x2 := pb.at0
      have x3 := pb.at1
      have x4 := pc.at0
      have x5 := pc.at1
      have q1 := pass_eq n a2
      clear pa pb pc
      have g1 : ¬ a3 < a2 := by omega
      have q4 := pass_eq ⟨#[]⟩ 0
      go_wp2_with fail
      refine (lives_any _ hl.lay).mono ?_
      rintro e w9 ⟨rfl, hb9⟩
      replace hb9 := bstep hb2 hb9
      clear hl hb2 x0 x1 x2 x3 x4 x5 q1 hb5
      go_wp2
      go_ret
      exact ⟨rfl, hb9⟩
    · rw [HO0.out (by omega)]
      simp only []
      clear HO8 HO0
      obtain ⟨pa, hbp⟩ := pb_new w2 n a2
      replace hl := hl.below hbp
      replace hb2 := bstep hb2 hbp
      clear hbp
      obtain ⟨B1, hB1⟩ : ∃ B, B = w2.heap.size := ⟨_, rfl⟩
      rw [← hB1] at pa
      obtain ⟨W1, hW1⟩ : ∃ W, W = w2.alloc (.cells #[.string n, .int .i64 a2] 35) := ⟨_, rfl⟩
      rw [← hW1] at pa hl hb2
      obtain ⟨pb, hbq⟩ := pb_new W1 n a2
      replace pa := pa.below hbq
      replace hl := hl.below hbq
      replace hb2 := bstep hb2 hbq
      clear hbq
      have hB2 : W1.heap.size = B1 + 1 := by rw [hW1, hB1]; simp
      rw [hB2] at pb
      have HB1 : Hid (w2.heap.size = B1) := hB1.symm
      have HW1 : Hid (w2.alloc (.cells #[.string n, .int .i64 a2] 35) = W1) := hW1.symm
      clear hB1 hB2 hW1
      go_wp2_with fail
      rw [HW1.out, HB1.out]
      generalize hW2 : W1.alloc (.cells #[.string n, .int .i64 a2] 35) = W2 at pa pb hl hb2 ⊢
      generalize B1 + 1 = B2 at pb ⊢
      clear hW2 HW1 HB1
      refine (claim_any s _ z2 hl).mono ?_
      rintro e w5 ⟨rfl, hb5⟩
      rw [HC.out.1, HC.out.2.1, HC.out.2.2]
      obtain ⟨pc, hbr⟩ := pb_new w5 n a2
      replace hbr := bstep hb5 hbr
      replace pa := pa.below hbr
      replace pb := pb.below hbr
      replace hl := hl.below hbr
      replace hb2 := bstep hb2 hbr
      clear hbr HC
      have x0 := pa.at0
      have x1 := pa.at1
      have x2 := pb.at0
      have x3 := pb.at1
      have x4 := pc.at0
      have x5 := pc.at1
      have q1 := pass_eq n a2
      clear pa pb pc
      have g1 : a3 < a2 := by omega
      go_wp2_with fail
      refine (lives_any _ hl.lay).mono ?_
      rintro e w9 ⟨rfl, hb9⟩
      replace hb9 := bstep hb2 hb9
      clear hl hb2 x0 x1 x2 x3 x4 x5 q1 hb5
      go_wp2
      go_ret
      exact ⟨rfl, hb9⟩

set_option maxRecDepth 100000 in
/-- what the walk gives, for every argument and every world that holds the table -/
theorem contract (H : Type) (enc : TypeId × Value → H) (W : World) (base : Nat) (args : Array Value) (ds gs : List (DataW H)) (before : List MemPlace)
    (hval0 : ∀ (j : Nat) t v, Tryd.f5.params[j]? = some t → args[j]? = some v → Value.okWide Tryd.prog W .any base t v)
    (hW : DataW.Whole enc Tryd.prog Tryd.f5.params.toList Rows.tokenBackSpec.vars false W args.toList ds gs before) (hL : laidMetH Tryd.prog Rows.tokenBackRow.laid W) (hsh : W.ShapedOpen Tryd.prog) :
    Calls Tryd.prog 5 args W fun e W' => ∃ v, e = .returned v ∧ Rows.tokenBackSpec.post enc Tryd.prog Tryd.f5 false true false false W args v W' := by
  have hval : ∀ (j : Nat) t v, Tryd.f5.params[j]? = some t → args[j]? = some v → Value.okWide Tryd.prog W .any base t v := hval0
  have hW' := hW
  obtain ⟨p, q, hA0, hV, rfl, hfz, hnd⟩ := hW
  have hA : DataW.TrodAll enc Tryd.prog W 0 (fun _ => true) true Tryd.f5.params.toList args.toList ds p := hA0
  rw [Tryd.params5] at hA hval
  obtain ⟨v0, vs0, d0, ds0, p0, q0, hargs, rfl, rfl, h0, r0⟩ := trodAll_cons hA
  obtain ⟨v1, vs1, d1, ds1, p1, q1, rfl, rfl, rfl, h1, r1⟩ := trodAll_cons r0
  obtain ⟨v2, vs2, d2, ds2, p2, q2, rfl, rfl, rfl, h2, r2⟩ := trodAll_cons r1
  obtain ⟨v3, vs3, d3, ds3, p3, q3, rfl, rfl, rfl, h3, r3⟩ := trodAll_cons r2
  obtain ⟨rfl, rfl, rfl⟩ := trodAll_nil r3
  obtain rfl : args = #[v0, v1, v2, v3] := by cases args; simp_all
  obtain ⟨rfl, rfl⟩ := trodVars_none hV
  obtain ⟨a0, len0, cap0, rfl⟩ := okWide_slice Tryd.underlying22 (hval 0 22 v0 rfl rfl)
  have k0 := h0
  have lt0 : ∀ x ∈ p0, x.block < W.heap.size := by obtain ⟨m, hm⟩ := k0; exact DataW.trod_lt m _ _ _ hm
  obtain ⟨z0, w0⟩ : ∃ zs, IsRow .u8 W a0 len0 cap0 zs := by
    obtain ⟨fuel, hf⟩ := h0
    rcases open_ints Tryd.underlying22 Tryd.underlying5 (by kernel_rfl) hf with ⟨hcs, _⟩ | ⟨x, l, c, zs, hcs, _, hl, hm, hz, _, hcell, hwz⟩
    · simp [Value.cells] at hcs
      obtain ⟨rfl, rfl, rfl⟩ := hcs
      exact ⟨[], .inl ⟨rfl, rfl, rfl, rfl⟩⟩
    · simp [Value.cells] at hcs
      obtain ⟨rfl, rfl, rfl⟩ := hcs
      exact ⟨zs, .inr ⟨_, rfl, hl, hm, by simpa using hz, hcell, hwz⟩⟩
  obtain ⟨a1, rfl, rfl, rfl, w1⟩ := open_string Tryd.underlying9 (hval 1 9 v1 rfl rfl) h1
  obtain ⟨a2, rfl, rfl, rfl, w2⟩ := open_int Tryd.underlying3 (hval 2 3 v2 rfl rfl) h2
  obtain ⟨a3, rfl, rfl, rfl, w3⟩ := open_int Tryd.underlying3 (hval 3 3 v3 rfl rfl) h3
  clear hA0 hval0
  refine (walk a0 len0 cap0 z0 a1 a2 a3 W w0 w1 w2 w3 hL hsh).mono fun e W' ⟨he, bel⟩ => ?_
  subst he
  exact ⟨_, rfl, _, _, _, [], _, [], hW', trodAll_mk1 (shut_bool Tryd.underlying4 _), (trodAll_cons_mk (Below.trod laidOut (by kernel_rfl) (of_decide_eq_true (by kernel_rfl)) k0 bel lt0) (trodAll_cons_mk (shut_string Tryd.underlying9 w1) (trodAll_cons_mk (shut_int Tryd.underlying3 w2) (trodAll_cons_mk (shut_int Tryd.underlying3 w3) trodAll_mk0)))), rfl, bel.frame _, fun h => by cases h⟩

set_option maxRecDepth 100000 in
theorem laid_met (os : Os) : laidMet Tryd.prog Rows.tokenBackRow.laid ((World.doorLaid Tryd.prog 2000 os).forCall (fun _ _ => 0) ⟨#[], #[.slice none 0 0, .string ByteArray.empty, .int .i64 0, .int .i64 0], []⟩).memory :=
  laidMet_of_run' 8 (by kernel_rfl) (by kernel_rfl)
set_option maxRecDepth 100000 in
theorem reads (os : Os) {H : Type} (enc : TypeId × Value → H) : ∃ places, DataW.whole enc Tryd.prog ((World.doorLaid Tryd.prog 2000 os).forCall (fun _ _ => 0) ⟨#[], #[.slice none 0 0, .string ByteArray.empty, .int .i64 0, .int .i64 0], []⟩).memory Tryd.f5.params.toList Rows.tokenBackSpec.vars false (#[.slice none 0 0, .string ByteArray.empty, .int .i64 0, .int .i64 0] : Array Value).toList 8 = some ([.nil, .lit (.string []), .lit (.int .i64 0), .lit (.int .i64 0)], [], places) :=
  ⟨[], by kernel_rfl⟩
set_option maxRecDepth 100000 in
theorem lifted (os : Os) (started : os.Started) (H : Type) (enc : TypeId × Value → H) (F : Stop.Interp) :
    ReturnsInHanded {} Tryd.checked os 5 .any ((OpenSpec.ofChange Rows.tokenBackSpec).preRow enc Tryd.prog Tryd.f5 Rows.tokenBackRow.domain false Rows.tokenBackRow.laid) (((OpenSpec.ofChange Rows.tokenBackSpec).at F).post enc Tryd.prog Tryd.f5 false true false false) := by
  obtain ⟨places, hx⟩ := reads os enc
  refine returnsInHanded_of_row (C := Tryd.checked) (s := OpenSpec.ofChange Rows.tokenBackSpec) own started (by kernel_rfl) Tryd.func5
    (witness_row_at (enc := enc) (C := Tryd.checked) false (World.doorLaid Tryd.prog 2000 os) #[.slice none 0 0, .string ByteArray.empty, .int .i64 0, .int .i64 0] rfl (by kernel_rfl) (by kernel_rfl) (by kernel_rfl)
      (OpenSpec.preRow_of_cond 8 hx (by kernel_rfl) (fun k hk => by cases hk) (by kernel_rfl) (laid_met os))) ?_
  intro W base args ds gs before hval hW _ _ _ hL hsh _
  exact contract H enc W base args ds gs before hval hW hL hsh
theorem said : Rows.TokenBackSaid :=
  OpenClaim.holds_of_cond 5 Tryd.f5 rfl rfl rfl rfl rfl rfl rfl ⟨rfl, rfl, rfl, rfl, rfl⟩ rfl rfl rfl rfl rfl (by kernel_rfl) Tryd.func5 (by kernel_rfl)
    (of_decide_eq_true (by kernel_rfl)) (by unfold Func.isWrapper; first | (rw [if_pos (by decide +kernel)]; kernel_rfl) | (rw [if_neg (by decide +kernel)]; exact ⟨rfl, rfl⟩))
    (fun os started H enc _ F => by rw [OpenClaim.pre_eq_preRow]; exact lifted os started H enc F)
theorem plain (f : FuncId) (fn : Func) (hf : Tryd.pinned.checked.prog.funcNamed "inquest/inquestlaw05.TokenBack" = some f) (hfn : Tryd.pinned.checked.prog.funcs[f]? = some fn) :
    true = Tryd.pinned.checked.prog.looks [] ∧ ∀ (j : Nat) t, fn.params[j]? = some t → Tryd.pinned.checked.prog.wantsStandIn t = false := by
  obtain rfl : f = 5 := Option.some.inj ((show Tryd.prog.funcNamed "inquest/inquestlaw05.TokenBack" = some 5 by kernel_rfl).symm.trans hf) |>.symm
  obtain rfl : fn = Tryd.f5 := (Option.some.inj (Tryd.func5.symm.trans hfn)).symm
  refine ⟨by kernel_rfl, fun j t ht => ?_⟩
  rw [Tryd.params5] at ht
  have hall : ([22, 9, 3, 3].all fun u => !Tryd.prog.wantsStandIn u) = true := by kernel_rfl
  have hm : t ∈ [22, 9, 3, 3] := by simpa using Array.mem_of_getElem? ht
  exact (show Tryd.prog.wantsStandIn t = false by simpa using List.all_eq_true.1 hall t hm)
/-- the tied card -/
theorem card : Rows.TokenBackCardSaid :=
  Claim7.holds_tied_plain_at .later [] _ _ _ _ said (fun _ h => by cases h) (by kernel_rfl) (fun _ h => by cases h) tokenBack_row_tie rfl ⟨rfl, rfl⟩ (by kernel_rfl) rfl plain (by kernel_rfl)
end Go.Proofs.YtdoedkgidcoibaaDoor.tokenBack
namespace Go.Proofs.YtdoedkgidcoibaaDoor
theorem tokenBack_holds : Rows.TokenBackCardSaid := tokenBack.card
#print axioms tokenBack_holds
end Go.Proofs.YtdoedkgidcoibaaDoor
