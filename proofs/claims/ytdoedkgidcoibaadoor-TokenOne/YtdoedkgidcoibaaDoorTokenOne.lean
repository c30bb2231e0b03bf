/- For every slice of bytes, every text and every int the law TokenOne returns true and the slice reads as it did (P5.3): of texts of up to 300 bytes, one that is opened is the token of what it says: minted again it is the same. The library's and the package's tables and errors are as the program's text lays them (the card ties them). -/
import Derived.Test.YtdoedkgidcoibaaDoorTDoor
import Derived.LaidMore
import Derived.Test.YtdoedkgidcoibaaDoorSDoor
import Derived.Test.YtdoedkgidcoibaaDoorTLives
import Derived.Test.YtdoedkgidcoibaaDoorOpen
import Derived.Test.YtdoedkgidcoibaaDoorPasses
import Derived.Test.YtdoedkgidcoibaaDoorTokFacts
import Derived.Test.YtdoedkgidcoibaaDoorSma
import Derived.Test.YtdoedkgidcoibaaDoorSCut
import Derived.WalkKit
import Derived.ShutString
import Derived.ChangeOld
import Derived.Below
namespace Go.Proofs.YtdoedkgidcoibaaDoor.tokenOne
open Go.ChangeShapes Go.WideShapes Go.ChangeAt Go.RowKit
open Go.ChangeMaps (open_string shut_string)
set_option linter.unusedVariables false

theorem laidOut : laidOutB Tryd.prog = true := by kernel_rfl

/-- WHAT THE WALK IS TOLD OF A SLICE OF INTEGERS THAT CAME IN: it is nil; or it leads to a row of 'cap' cells, the numbers 'zs' (the first 'len' are its elements, the rest its spare room), each fitting its kind. -/
def IsRow (k : IntKind) (w : World) (a : Option Addr) (len cap : Nat) (zs : List Int) : Prop :=
  (a = none ∧ len = 0 ∧ cap = 0 ∧ zs = []) ∨
  ∃ x, a = some x ∧ len ≤ cap ∧ cap ≤ maxLen ∧ zs.length = cap ∧ (∀ i, i < zs.length → w.cell? (x.add i) = some (.int k (zs.getD i 0))) ∧ ∀ n ∈ zs, (Lit.int k n).wf = true


theorem one_ways (k : List Int) (s : ByteArray) (now : Int) : (∃ E : Int, (E != 0) = true ∧ opn k s now = (⟨#[]⟩, 0, E)) ∨ ∃ n v, mOk n v = true ∧ s = tokB k n v ∧ now < v ∧ opn k s now = (n, v, 0) := by
  rcases opn_ways k s with h | h | ⟨n, v, h1, h2, h3, h4⟩
  · exact .inl ⟨4, by decide, h now⟩
  · exact .inl ⟨7, by decide, h now⟩
  · by_cases hv : v ≤ now
    · exact .inl ⟨8, by decide, h3 now hv⟩
    · exact .inr ⟨n, v, h1, h2, by omega, h4 now hv⟩

set_option maxRecDepth 100000 in
set_option maxHeartbeats 1000000 in
theorem walk (a0 : Option Addr) (len0 cap0 : Nat) (z0 : List Int) (a1 : ByteArray) (a2 : Int) (w : World) (w0 : IsRow .u8 w a0 len0 cap0 z0) (w1 : a1.size ≤ maxLen) (w2 : (Lit.int .i64 a2).wf = true) (hL : laidMetH Tryd.prog Rows.tokenOneRow.laid w) (hsh : w.ShapedOpen Tryd.prog) :
    Calls Tryd.prog 6 #[.slice a0 len0 cap0, .string a1, .int .i64 a2] w fun e w' => e = .returned (.bool true) ∧ Below w.heap.size w w' := by
  have hL' := plainH hL (by kernel_rfl)
  have hl : LayE w := ⟨⟨tab_at hL' 5 rfl, tens_at hL' 2 rfl⟩, errs_at hL' 3 4 rfl rfl⟩
  clear hL hL' hsh
  have hs1 : a1.size ≤ 9223372036854775807 := w1
  have r0 : Bts w a0 len0 cap0 (z0.take len0) := Bts.of_row w0
  generalize z0.take len0 = l0 at r0
  clear w0 w1 w2
  go_enter Tryd.func6, Tryd.ntmps6
  go_wp2_with fail
  refine (cut_any a0 len0 cap0 300 l0 _ r0 (by decide)).mono ?_
  rintro e wz ⟨⟨n0, rfl, h0⟩, hwz⟩
  obtain rfl : w = wz := hwz
  go_wp2_with fail
  refine (scut_any a1 300 _ hs1).mono ?_
  rintro e wz ⟨⟨s, rfl, hs⟩, hwz⟩
  obtain rfl : w = wz := hwz.symm
  clear hwz
  have hn0 : n0 ≤ 300 := by have := h0.len_eq; rw [List.length_take] at this; omega
  generalize l0.take 300 = k at h0
  clear r0 hs1
  go_wp2_with fail
  refine (open_any _ _ _ k s a2 _ h0 hn0 hs hl).mono ?_
  rintro e w1 ⟨rfl, hb1⟩
  replace hl := hl.below hb1
  replace h0 := h0.below hb1
  rcases one_ways k s a2 with ⟨E, hE, hO⟩ | ⟨n, v, hok, hT, hv, hO⟩
  · rw [hO]
    simp only []
    obtain ⟨pa, hbp⟩ := pb_new w1 ⟨#[]⟩ 0
    replace hl := hl.below hbp
    replace hb1 := bstep hb1 hbp
    have q1 := pass_eq ⟨#[]⟩ 0
    have x0 := pa.at0
    have x1 := pa.at1
    clear hO hbp h0 pa
    go_wp2_with fail
    refine (lives_any _ hl.lay).mono ?_
    rintro e w9 ⟨rfl, hb9⟩
    replace hb9 := bstep hb1 hb9
    clear hl hb1 x0 x1 q1 hE
    go_wp2
    go_ret
    exact ⟨rfl, hb9⟩
  · rw [hO]
    simp only []
    obtain ⟨e1, e2⟩ := mint_yes (k := k) hok
    obtain ⟨hn1, hn2, hn3⟩ := (mOk_iff n v).1 hok
    have hn : n.size ≤ 300 := Nat.le_trans hn1.2.1 (by decide)
    have HM : Hid (mintS k n v = s ∧ mintE n v = 0) := ⟨by rw [e1, hT], e2⟩
    obtain ⟨pa, hbp⟩ := pb_new w1 n v
    replace hl := hl.below hbp
    replace h0 := h0.below hbp
    replace hb1 := bstep hb1 hbp
    have x0 := pa.at0
    have x1 := pa.at1
    clear hO hbp hT e1 e2 hn1 hok
    go_wp2_with fail
    obtain ⟨B, hBB⟩ : ∃ B, B = w1.heap.size := ⟨_, rfl⟩
    rw [← hBB] at pa ⊢
    clear x0 x1
    generalize w1.alloc (.cells #[.string n, .int .i64 v] 35) = w2 at pa h0 hl hb1 ⊢
    clear hBB
    refine (mint_any _ _ _ k n v _ h0 hn0 hn (by omega) (by omega) hl.lay).mono ?_
    rintro e w3 ⟨rfl, hb3⟩
    rw [HM.out.1, HM.out.2]
    replace pa := pa.below hb3
    replace hl := hl.below hb3
    replace hb3 := bstep hb1 hb3
    have x0 := pa.at0
    have x1 := pa.at1
    have q1 : (s.toList == s.toList) = true := by simp
    have q2 : decide (a2 < v) = true := by simpa using hv
    clear hb1 h0 HM pa
    go_wp2_with fail
    refine (lives_any _ hl.lay).mono ?_
    rintro e w9 ⟨rfl, hb9⟩
    replace hb9 := bstep hb3 hb9
    clear hl hb3 x0 x1 q1 q2
    go_wp2
    go_ret
    exact ⟨rfl, hb9⟩

set_option maxRecDepth 100000 in
/-- what the walk gives, for every argument and every world that holds the table -/
theorem contract (H : Type) (enc : TypeId × Value → H) (W : World) (base : Nat) (args : Array Value) (ds gs : List (DataW H)) (before : List MemPlace)
    (hval0 : ∀ (j : Nat) t v, Tryd.f6.params[j]? = some t → args[j]? = some v → Value.okWide Tryd.prog W .any base t v)
    (hW : DataW.Whole enc Tryd.prog Tryd.f6.params.toList Rows.tokenOneSpec.vars false W args.toList ds gs before) (hL : laidMetH Tryd.prog Rows.tokenOneRow.laid W) (hsh : W.ShapedOpen Tryd.prog) :
    Calls Tryd.prog 6 args W fun e W' => ∃ v, e = .returned v ∧ Rows.tokenOneSpec.post enc Tryd.prog Tryd.f6 false true false false W args v W' := by
  have hval : ∀ (j : Nat) t v, Tryd.f6.params[j]? = some t → args[j]? = some v → Value.okWide Tryd.prog W .any base t v := hval0
  have hW' := hW
  obtain ⟨p, q, hA0, hV, rfl, hfz, hnd⟩ := hW
  have hA : DataW.TrodAll enc Tryd.prog W 0 (fun _ => true) true Tryd.f6.params.toList args.toList ds p := hA0
  rw [Tryd.params6] at hA hval
  obtain ⟨v0, vs0, d0, ds0, p0, q0, hargs, rfl, rfl, h0, r0⟩ := trodAll_cons hA
  obtain ⟨v1, vs1, d1, ds1, p1, q1, rfl, rfl, rfl, h1, r1⟩ := trodAll_cons r0
  obtain ⟨v2, vs2, d2, ds2, p2, q2, rfl, rfl, rfl, h2, r2⟩ := trodAll_cons r1
  obtain ⟨rfl, rfl, rfl⟩ := trodAll_nil r2
  obtain rfl : args = #[v0, v1, v2] := by cases args; simp_all
  obtain ⟨rfl, rfl⟩ := trodVars_none hV
  obtain ⟨a0, len0, cap0, rfl⟩ := okWide_slice Tryd.underlying22 (hval 0 22 v0 rfl rfl)
  have k0 := h0
  have lt0 : ∀ x ∈ p0, x.block < W.heap.size := by obtain ⟨m, hm⟩ := k0; exact DataW.trod_lt m _ _ _ hm
  obtain ⟨z0, w0⟩ : ∃ zs, IsRow .u8 W a0 len0 cap0 zs := by
    obtain ⟨fuel, hf⟩ := h0
    rcases open_ints Tryd.underlying22 Tryd.underlying5 (by kernel_rfl) hf with ⟨hcs, _⟩ | ⟨x, l, c, zs, hcs, _, hl, hm, hz, _, hcell, hwz⟩
    · simp [Value.cells] at hcs
      obtain ⟨rfl, rfl, rfl⟩ := hcs
      exact ⟨[], .inl ⟨rfl, rfl, rfl, rfl⟩⟩
    · simp [Value.cells] at hcs
      obtain ⟨rfl, rfl, rfl⟩ := hcs
      exact ⟨zs, .inr ⟨_, rfl, hl, hm, by simpa using hz, hcell, hwz⟩⟩
  obtain ⟨a1, rfl, rfl, rfl, w1⟩ := open_string Tryd.underlying9 (hval 1 9 v1 rfl rfl) h1
  obtain ⟨a2, rfl, rfl, rfl, w2⟩ := open_int Tryd.underlying3 (hval 2 3 v2 rfl rfl) h2
  clear hA0 hval0
  refine (walk a0 len0 cap0 z0 a1 a2 W w0 w1 w2 hL hsh).mono fun e W' ⟨he, bel⟩ => ?_
  subst he
  exact ⟨_, rfl, _, _, _, [], _, [], hW', trodAll_mk1 (shut_bool Tryd.underlying4 _), (trodAll_cons_mk (Below.trod laidOut (by kernel_rfl) (of_decide_eq_true (by kernel_rfl)) k0 bel lt0) (trodAll_cons_mk (shut_string Tryd.underlying9 w1) (trodAll_cons_mk (shut_int Tryd.underlying3 w2) trodAll_mk0))), rfl, bel.frame _, fun h => by cases h⟩

set_option maxRecDepth 100000 in
theorem laid_met (os : Os) : laidMet Tryd.prog Rows.tokenOneRow.laid ((World.doorLaid Tryd.prog 2000 os).forCall (fun _ _ => 0) ⟨#[], #[.slice none 0 0, .string ByteArray.empty, .int .i64 0], []⟩).memory :=
  laidMet_of_run' 8 (by kernel_rfl) (by kernel_rfl)
set_option maxRecDepth 100000 in
theorem reads (os : Os) {H : Type} (enc : TypeId × Value → H) : ∃ places, DataW.whole enc Tryd.prog ((World.doorLaid Tryd.prog 2000 os).forCall (fun _ _ => 0) ⟨#[], #[.slice none 0 0, .string ByteArray.empty, .int .i64 0], []⟩).memory Tryd.f6.params.toList Rows.tokenOneSpec.vars false (#[.slice none 0 0, .string ByteArray.empty, .int .i64 0] : Array Value).toList 8 = some ([.nil, .lit (.string []), .lit (.int .i64 0)], [], places) :=
  ⟨[], by kernel_rfl⟩
set_option maxRecDepth 100000 in
theorem lifted (os : Os) (started : os.Started) (H : Type) (enc : TypeId × Value → H) (F : Stop.Interp) :
    ReturnsInHanded {} Tryd.checked os 6 .any ((OpenSpec.ofChange Rows.tokenOneSpec).preRow enc Tryd.prog Tryd.f6 Rows.tokenOneRow.domain false Rows.tokenOneRow.laid) (((OpenSpec.ofChange Rows.tokenOneSpec).at F).post enc Tryd.prog Tryd.f6 false true false false) := by
  obtain ⟨places, hx⟩ := reads os enc
  refine returnsInHanded_of_row (C := Tryd.checked) (s := OpenSpec.ofChange Rows.tokenOneSpec) own started (by kernel_rfl) Tryd.func6
    (witness_row_at (enc := enc) (C := Tryd.checked) false (World.doorLaid Tryd.prog 2000 os) #[.slice none 0 0, .string ByteArray.empty, .int .i64 0] rfl (by kernel_rfl) (by kernel_rfl) (by kernel_rfl)
      (OpenSpec.preRow_of_cond 8 hx (by kernel_rfl) (fun k hk => by cases hk) (by kernel_rfl) (laid_met os))) ?_
  intro W base args ds gs before hval hW _ _ _ hL hsh _
  exact contract H enc W base args ds gs before hval hW hL hsh
theorem said : Rows.TokenOneSaid :=
  OpenClaim.holds_of_cond 6 Tryd.f6 rfl rfl rfl rfl rfl rfl rfl ⟨rfl, rfl, rfl, rfl, rfl⟩ rfl rfl rfl rfl rfl (by kernel_rfl) Tryd.func6 (by kernel_rfl)
    (of_decide_eq_true (by kernel_rfl)) (by unfold Func.isWrapper; first | (rw [if_pos (by decide +kernel)]; kernel_rfl) | (rw [if_neg (by decide +kernel)]; exact ⟨rfl, rfl⟩))
    (fun os started H enc _ F => by rw [OpenClaim.pre_eq_preRow]; exact lifted os started H enc F)
theorem plain (f : FuncId) (fn : Func) (hf : Tryd.pinned.checked.prog.funcNamed "inquest/inquestlaw05.TokenOne" = some f) (hfn : Tryd.pinned.checked.prog.funcs[f]? = some fn) :
    true = Tryd.pinned.checked.prog.looks [] ∧ ∀ (j : Nat) t, fn.params[j]? = some t → Tryd.pinned.checked.prog.wantsStandIn t = false := by
  obtain rfl : f = 6 := Option.some.inj ((show Tryd.prog.funcNamed "inquest/inquestlaw05.TokenOne" = some 6 by kernel_rfl).symm.trans hf) |>.symm
  obtain rfl : fn = Tryd.f6 := (Option.some.inj (Tryd.func6.symm.trans hfn)).symm
  refine ⟨by kernel_rfl, fun j t ht => ?_⟩
  rw [Tryd.params6] at ht
  have hall : ([22, 9, 3].all fun u => !Tryd.prog.wantsStandIn u) = true := by kernel_rfl
  have hm : t ∈ [22, 9, 3] := by simpa using Array.mem_of_getElem? ht
  exact (show Tryd.prog.wantsStandIn t = false by simpa using List.all_eq_true.1 hall t hm)
/-- the tied card -/
theorem card : Rows.TokenOneCardSaid :=
  Claim7.holds_tied_plain_at .later [] _ _ _ _ said (fun _ h => by cases h) (by kernel_rfl) (fun _ h => by cases h) tokenOne_row_tie rfl ⟨rfl, rfl⟩ (by kernel_rfl) rfl plain (by kernel_rfl)
end Go.Proofs.YtdoedkgidcoibaaDoor.tokenOne
namespace Go.Proofs.YtdoedkgidcoibaaDoor
theorem tokenOne_holds : Rows.TokenOneCardSaid := tokenOne.card
#print axioms tokenOne_holds
end Go.Proofs.YtdoedkgidcoibaaDoor
