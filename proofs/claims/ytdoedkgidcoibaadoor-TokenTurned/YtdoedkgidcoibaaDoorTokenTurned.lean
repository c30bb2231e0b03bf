/- For every slice of bytes, every text, every two ints and every byte the law TokenTurned returns true and the slice reads as it did (P5.2, P5.3): a token by a key and a name of up to 300 bytes, of which one byte is another one, is opened by nobody, unless it is a token by itself. The library's and the package's tables and errors are as the program's text lays them (the card ties them). -/
import Derived.Test.YtdoedkgidcoibaaDoorTDoor
import Derived.LaidMore
import Derived.Test.YtdoedkgidcoibaaDoorSDoor
import Derived.Test.YtdoedkgidcoibaaDoorTLives
import Derived.Test.YtdoedkgidcoibaaDoorRefTok
import Derived.Test.YtdoedkgidcoibaaDoorOpen
import Derived.Test.YtdoedkgidcoibaaDoorPasses
import Derived.Test.YtdoedkgidcoibaaDoorTokTurn
import Derived.Test.YtdoedkgidcoibaaDoorSma
import Derived.Test.YtdoedkgidcoibaaDoorSCut
import Derived.WalkKit
import Derived.ShutString
import Derived.ChangeOld
import Derived.Below
namespace Go.Proofs.YtdoedkgidcoibaaDoor.tokenTurned
open Go.ChangeShapes Go.WideShapes Go.ChangeAt Go.RowKit
open Go.ChangeMaps (open_string shut_string)
set_option linter.unusedVariables false

theorem laidOut : laidOutB Tryd.prog = true := by kernel_rfl

/-- WHAT THE WALK IS TOLD OF A SLICE OF INTEGERS THAT CAME IN: it is nil; or it leads to a row of 'cap' cells, the numbers 'zs' (the first 'len' are its elements, the rest its spare room), each fitting its kind. -/
def IsRow (k : IntKind) (w : World) (a : Option Addr) (len cap : Nat) (zs : List Int) : Prop :=
  (a = none ∧ len = 0 ∧ cap = 0 ∧ zs = []) ∨
  ∃ x, a = some x ∧ len ≤ cap ∧ cap ≤ maxLen ∧ zs.length = cap ∧ (∀ i, i < zs.length → w.cell? (x.add i) = some (.int k (zs.getD i 0))) ∧ ∀ n ∈ zs, (Lit.int k n).wf = true


set_option maxRecDepth 100000 in
set_option maxHeartbeats 1000000 in
theorem walk (a0 : Option Addr) (len0 cap0 : Nat) (z0 : List Int) (a1 : ByteArray) (a2 : Int) (a3 : Int) (a4 : Int) (w : World) (w0 : IsRow .u8 w a0 len0 cap0 z0) (w1 : a1.size ≤ maxLen) (w2 : (Lit.int .i64 a2).wf = true) (w3 : (Lit.int .i64 a3).wf = true) (w4 : (Lit.int .u8 a4).wf = true) (hL : laidMetH Tryd.prog Rows.tokenTurnedRow.laid w) (hsh : w.ShapedOpen Tryd.prog) :
    Calls Tryd.prog 7 #[.slice a0 len0 cap0, .string a1, .int .i64 a2, .int .i64 a3, .int .u8 a4] w fun e w' => e = .returned (.bool true) ∧ Below w.heap.size w w' := by
  have hL' := plainH hL (by kernel_rfl)
  have hl : LayE w := ⟨⟨tab_at hL' 5 rfl, tens_at hL' 2 rfl⟩, errs_at hL' 3 4 rfl rfl⟩
  clear hL hL' hsh
  have hs1 : a1.size ≤ 9223372036854775807 := w1
  have wi : -9223372036854775808 ≤ a2 ∧ a2 ≤ 9223372036854775807 := by
    simp [Lit.wf] at w2; exact w2
  have hy : 0 ≤ a4 ∧ a4 ≤ 255 := by simp [Lit.wf] at w4; exact w4
  have r0 : Bts w a0 len0 cap0 (z0.take len0) := Bts.of_row w0
  generalize z0.take len0 = l0 at r0
  clear w0 w1 w2 w3 w4
  go_enter Tryd.func7, Tryd.ntmps7
  go_wp2_with fail
  refine (cut_any a0 len0 cap0 300 l0 _ r0 (by decide)).mono ?_
  rintro e wz ⟨⟨n0, rfl, h0⟩, hwz⟩
  obtain rfl : w = wz := hwz
  go_wp2_with fail
  refine (scut_any a1 300 _ hs1).mono ?_
  rintro e wz ⟨⟨n, rfl, hn⟩, hwz⟩
  obtain rfl : w = wz := hwz.symm
  clear hwz
  have hn0 : n0 ≤ 300 := by have := h0.len_eq; rw [List.length_take] at this; omega
  generalize l0.take 300 = k at h0
  clear r0 hs1
  go_wp2_with fail
  refine (mint_any _ _ _ k n a2 _ h0 hn0 hn wi.1 wi.2 hl.lay).mono ?_
  rintro e w1 ⟨rfl, hb1⟩
  replace h0 := h0.below hb1
  replace hl := hl.below hb1
  cases hok : mOk n a2 with
  | false =>
    have e1 := (mint_no (k := k) hok).1
    have e2 := (mint_no (k := k) hok).2
    rw [← e1, ← e2]
    clear e1 e2 hok h0
    have q1 : ((⟨#[]⟩ : ByteArray).toList == (⟨#[]⟩ : ByteArray).toList) = true := by simp
    go_wp2_with fail
    refine (lives_any _ hl.lay).mono ?_
    rintro e w9 ⟨rfl, hb9⟩
    replace hb9 := bstep hb1 hb9
    clear hl hb1
    go_wp2
    go_ret
    exact ⟨rfl, hb9⟩
  | true =>
    obtain ⟨e1, e2⟩ := mint_yes (k := k) hok
    rw [e1, e2]
    obtain ⟨z1, z2⟩ := tok_size (k := k) hok
    have HL : Bx (∀ (m : ByteArray) (u : Int) (i : Nat) (c : Int), mOk m u = true → i < (tokB k n a2).size → ¬ sb (tokB k n a2) i = c → 0 ≤ c ∧ c ≤ 255 → turnB (tokB k n a2) i c = tokB k m u → i + 65 < (tokB k n a2).size) := ⟨fun m u i c h1 h2 h3 h4 h5 => turned_low hok h1 h2 h3 h4 h5⟩
    clear e1 e2 hok
    generalize tokB k n a2 = s at z1 z2 HL
    have hcv := Lib.run_convert_string_bytes (P := Tryd.prog) w1 9 22 5 s Tryd.underlying9 Tryd.underlying22 Tryd.underlying5
    go_wp2_with fail
    clear hcv
    refine (least_any a3 0 ((s.size : Int) - 1) _).mono ?_
    rintro e wz ⟨rfl, hwz⟩
    obtain rfl : Lib.bytesWorld w1 5 s = wz := hwz
    have hld := least_bd a3 0 ((s.size : Int) - 1) (by omega)
    generalize leastV a3 0 ((s.size : Int) - 1) = iz at hld
    obtain ⟨i, rfl⟩ : ∃ i : Nat, iz = (i : Int) := ⟨iz.toNat, by omega⟩
    have hi : i < s.size := by omega
    have hii : (i : Int) < (s.size : Int) := by omega
    clear hld
    have hcell := Lib.bytesWorld_cell w1 5 s i hi
    change _ = some (Value.int .u8 (sb s i)) at hcell
    have hfr := bytes_frozen w1 5 s i hi
    obtain ⟨hbt, hBt⟩ := turned_bts w1 s i a4 hi hy (by unfold maxLen; omega)
    have hbb := bytes_low w1 5 s
    generalize grownCap w1 s.size 0 5 = cp at hBt ⊢
    generalize Lib.bytesWorld w1 5 s = w2 at hcell hfr hbt hBt hbb ⊢
    by_cases heq : sb s i = a4
    · have q1 : (sb s i == a4) = true := by simp [heq]
      replace hl := hl.below hbb
      replace hbb := bstep hb1 hbb
      clear heq HL hbt hBt h0
      go_wp2_with fail
      refine (lives_any _ hl.lay).mono ?_
      rintro e w9 ⟨rfl, hb9⟩
      replace hb9 := bstep hbb hb9
      clear hl hbb hb1
      go_wp2
      go_ret
      exact ⟨rfl, hb9⟩
    · have q1 : (sb s i == a4) = false := by simp [heq]
      have HL2 : Bx (∀ (m : ByteArray) (u : Int), mOk m u = true → turnB s i a4 = tokB k m u → i + 65 < s.size) := ⟨fun m u h1 h5 => HL.out m u i a4 h1 hi heq hy h5⟩
      have hstr := hBt.str
      have htz : (turnB s i a4).size ≤ 300 := by rw [turnB_size]; exact z2
      change _ = Result.ok (Value.string (turnB s i a4)) _ at hstr
      have HST : Bx (strOf ((strL s).set i a4) = turnB s i a4) := ⟨rfl⟩
      generalize (strL s).set i a4 = lt at hBt HST
      generalize turnB s i a4 = t at HL2 hstr htz HST
      replace hl := hl.below hbt
      replace h0 := h0.below hbt
      replace hbt := bstep hb1 hbt
      clear HL heq hbb hb1
      go_wp2_with fail
      generalize w2.setCell ⟨w1.heap.size, i, none⟩ (.int .u8 a4) = w3 at hl h0 hbt hBt hstr ⊢
      clear hcell hfr q1 hstr
      refine (open_any _ _ _ k t (-1) _ h0 hn0 htz hl).mono ?_
      rintro e w4 ⟨rfl, hb4⟩
      replace hl := hl.below hb4
      replace h0 := h0.below hb4
      replace hBt := hBt.below hb4
      replace hb4 := bstep hbt hb4
      clear hbt
      rcases turned_ways k t with ⟨E, hE0, hE1, hO⟩ | ⟨m, u, hok, hT, hO⟩
      · rw [hO]
        simp only []
        obtain ⟨pa, hbp⟩ := pb_new w4 ⟨#[]⟩ 0
        replace hl := hl.below hbp
        replace hb4 := bstep hb4 hbp
        clear hO pa hbp h0 hBt HL2
        rcases hE1 with rfl | rfl
        · go_wp2_with fail
          refine (lives_any _ hl.lay).mono ?_
          rintro e w9 ⟨rfl, hb9⟩
          replace hb9 := bstep hb4 hb9
          clear hl hb4
          go_wp2
          go_ret
          exact ⟨rfl, hb9⟩
        · go_wp2_with fail
          refine (lives_any _ hl.lay).mono ?_
          rintro e w9 ⟨rfl, hb9⟩
          replace hb9 := bstep hb4 hb9
          clear hl hb4
          go_wp2
          go_ret
          exact ⟨rfl, hb9⟩
      · rw [hO]
        simp only []
        obtain ⟨pa, hbp⟩ := pb_new w4 m u
        replace hl := hl.below hbp
        replace h0 := h0.below hbp
        replace hBt := hBt.below hbp
        replace hb4 := bstep hb4 hbp
        have hlow := HL2.out m u hok hT
        obtain ⟨hm1, hm2, hm3⟩ := (mOk_iff m u).1 hok
        have hm : m.size ≤ 300 := Nat.le_trans hm1.2.1 (by decide)
        have HRT : Hid (∀ w', Bts w' a0 n0 cap0 k → Calls Tryd.prog 22 #[.slice a0 n0 cap0, .string m, .int .i64 u] w' fun e w'' => e = .returned (.string t) ∧ Below w'.heap.size w' w'') := fun w' h => by rw [hT]; exact reftext_any _ _ _ k m u w' h hn0 hm (by omega) (by omega)
        have g1 : (i : Int) < (s.size : Int) - 65 := by omega
        have g2 : decide ((i : Int) < (s.size : Int) - 65) = true := by simpa using g1
        have g3 : (t.toList == t.toList) = true := by simp
        have g4 : IntKind.i64.wrap ((s.size : Int) - 65) = (s.size : Int) - 65 := IntWalk.i64_in _ (by omega)
        obtain ⟨P, hP⟩ : ∃ P, P = w4.heap.size := ⟨_, rfl⟩
        rw [← hP] at pa
        have HP : Hid (w4.heap.size = P) := hP.symm
        clear hO HL2 hT hok hm1 hbp hlow hP
        go_wp2_with fail
        rw [HP.out]
        generalize w4.alloc (.cells #[.string m, .int .i64 u] 35) = w5 at hl h0 hBt hb4 pa ⊢
        clear HP
        obtain ⟨B, hB⟩ : ∃ B, B = w1.heap.size := ⟨_, rfl⟩
        rw [← hB] at hBt ⊢
        clear hB
        have hTU : TU B P s.size cp n0 cap0 a0 k lt m u w w5.drew := ⟨below_drewN hb4 1, hl.lay.drewN 1, h0.drewN 1, hBt.drewN 1, pa.drewN 1⟩
        have hTH := hTU.held HST.out
        clear hl h0 hBt hb4 pa hTU
        go_region_held3 (fun w' => w'.cell? ⟨P, 0, none⟩ = some (.string m) ∧ w'.cell? ⟨P, 1, none⟩ = some (.int .i64 u) ∧ (convert 22 9 (.slice (some ⟨B, 0, none⟩) s.size cp)).run Tryd.prog w' = .ok (.string t) w' ∧ TU B P s.size cp n0 cap0 a0 k lt m u w w') (first | (exact hTH) | (exact TUH.step (by assumption) HST.out hb6) | (exact TUH.step (by assumption) HST.out hb7)) (first | (go_at_call 22; refine (HRT.out _ (tuh_key (by assumption))).mono ?_; rintro e6 w6 ⟨rfl, hb6⟩) | (go_at_call 15; refine (lives_any _ (tuh_lay (by assumption))).mono ?_; rintro e7 w7 ⟨rfl, hb7⟩))
        rename_i hH
        have hfin := tuh_low hH
        clear hH hTH hb6 hb7 HRT
        go_wp2
        go_ret
        exact ⟨rfl, hfin⟩

set_option maxRecDepth 100000 in
/-- what the walk gives, for every argument and every world that holds the table -/
theorem contract (H : Type) (enc : TypeId × Value → H) (W : World) (base : Nat) (args : Array Value) (ds gs : List (DataW H)) (before : List MemPlace)
    (hval0 : ∀ (j : Nat) t v, Tryd.f7.params[j]? = some t → args[j]? = some v → Value.okWide Tryd.prog W .any base t v)
    (hW : DataW.Whole enc Tryd.prog Tryd.f7.params.toList Rows.tokenTurnedSpec.vars false W args.toList ds gs before) (hL : laidMetH Tryd.prog Rows.tokenTurnedRow.laid W) (hsh : W.ShapedOpen Tryd.prog) :
    Calls Tryd.prog 7 args W fun e W' => ∃ v, e = .returned v ∧ Rows.tokenTurnedSpec.post enc Tryd.prog Tryd.f7 false true false false W args v W' := by
  have hval : ∀ (j : Nat) t v, Tryd.f7.params[j]? = some t → args[j]? = some v → Value.okWide Tryd.prog W .any base t v := hval0
  have hW' := hW
  obtain ⟨p, q, hA0, hV, rfl, hfz, hnd⟩ := hW
  have hA : DataW.TrodAll enc Tryd.prog W 0 (fun _ => true) true Tryd.f7.params.toList args.toList ds p := hA0
  rw [Tryd.params7] at hA hval
  obtain ⟨v0, vs0, d0, ds0, p0, q0, hargs, rfl, rfl, h0, r0⟩ := trodAll_cons hA
  obtain ⟨v1, vs1, d1, ds1, p1, q1, rfl, rfl, rfl, h1, r1⟩ := trodAll_cons r0
  obtain ⟨v2, vs2, d2, ds2, p2, q2, rfl, rfl, rfl, h2, r2⟩ := trodAll_cons r1
  obtain ⟨v3, vs3, d3, ds3, p3, q3, rfl, rfl, rfl, h3, r3⟩ := trodAll_cons r2
  obtain ⟨v4, vs4, d4, ds4, p4, q4, rfl, rfl, rfl, h4, r4⟩ := trodAll_cons r3
  obtain ⟨rfl, rfl, rfl⟩ := trodAll_nil r4
  obtain rfl : args = #[v0, v1, v2, v3, v4] := by cases args; simp_all
  obtain ⟨rfl, rfl⟩ := trodVars_none hV
  obtain ⟨a0, len0, cap0, rfl⟩ := okWide_slice Tryd.underlying22 (hval 0 22 v0 rfl rfl)
  have k0 := h0
  have lt0 : ∀ x ∈ p0, x.block < W.heap.size := by obtain ⟨m, hm⟩ := k0; exact DataW.trod_lt m _ _ _ hm
  obtain ⟨z0, w0⟩ : ∃ zs, IsRow .u8 W a0 len0 cap0 zs := by
    obtain ⟨fuel, hf⟩ := h0
    rcases open_ints Tryd.underlying22 Tryd.underlying5 (by kernel_rfl) hf with ⟨hcs, _⟩ | ⟨x, l, c, zs, hcs, _, hl, hm, hz, _, hcell, hwz⟩
    · simp [Value.cells] at hcs
      obtain ⟨rfl, rfl, rfl⟩ := hcs
      exact ⟨[], .inl ⟨rfl, rfl, rfl, rfl⟩⟩
    · simp [Value.cells] at hcs
      obtain ⟨rfl, rfl, rfl⟩ := hcs
      exact ⟨zs, .inr ⟨_, rfl, hl, hm, by simpa using hz, hcell, hwz⟩⟩
  obtain ⟨a1, rfl, rfl, rfl, w1⟩ := open_string Tryd.underlying9 (hval 1 9 v1 rfl rfl) h1
  obtain ⟨a2, rfl, rfl, rfl, w2⟩ := open_int Tryd.underlying3 (hval 2 3 v2 rfl rfl) h2
  obtain ⟨a3, rfl, rfl, rfl, w3⟩ := open_int Tryd.underlying3 (hval 3 3 v3 rfl rfl) h3
  obtain ⟨a4, rfl, rfl, rfl, w4⟩ := open_int Tryd.underlying5 (hval 4 5 v4 rfl rfl) h4
  clear hA0 hval0
  refine (walk a0 len0 cap0 z0 a1 a2 a3 a4 W w0 w1 w2 w3 w4 hL hsh).mono fun e W' ⟨he, bel⟩ => ?_
  subst he
  exact ⟨_, rfl, _, _, _, [], _, [], hW', trodAll_mk1 (shut_bool Tryd.underlying4 _), (trodAll_cons_mk (Below.trod laidOut (by kernel_rfl) (of_decide_eq_true (by kernel_rfl)) k0 bel lt0) (trodAll_cons_mk (shut_string Tryd.underlying9 w1) (trodAll_cons_mk (shut_int Tryd.underlying3 w2) (trodAll_cons_mk (shut_int Tryd.underlying3 w3) (trodAll_cons_mk (shut_int Tryd.underlying5 w4) trodAll_mk0))))), rfl, bel.frame _, fun h => by cases h⟩

set_option maxRecDepth 100000 in
theorem laid_met (os : Os) : laidMet Tryd.prog Rows.tokenTurnedRow.laid ((World.doorLaid Tryd.prog 2000 os).forCall (fun _ _ => 0) ⟨#[], #[.slice none 0 0, .string ByteArray.empty, .int .i64 0, .int .i64 0, .int .u8 0], []⟩).memory :=
  laidMet_of_run' 8 (by kernel_rfl) (by kernel_rfl)
set_option maxRecDepth 100000 in
theorem reads (os : Os) {H : Type} (enc : TypeId × Value → H) : ∃ places, DataW.whole enc Tryd.prog ((World.doorLaid Tryd.prog 2000 os).forCall (fun _ _ => 0) ⟨#[], #[.slice none 0 0, .string ByteArray.empty, .int .i64 0, .int .i64 0, .int .u8 0], []⟩).memory Tryd.f7.params.toList Rows.tokenTurnedSpec.vars false (#[.slice none 0 0, .string ByteArray.empty, .int .i64 0, .int .i64 0, .int .u8 0] : Array Value).toList 8 = some ([.nil, .lit (.string []), .lit (.int .i64 0), .lit (.int .i64 0), .lit (.int .u8 0)], [], places) :=
  ⟨[], by kernel_rfl⟩
set_option maxRecDepth 100000 in
theorem lifted (os : Os) (started : os.Started) (H : Type) (enc : TypeId × Value → H) (F : Stop.Interp) :
    ReturnsInHanded {} Tryd.checked os 7 .any ((OpenSpec.ofChange Rows.tokenTurnedSpec).preRow enc Tryd.prog Tryd.f7 Rows.tokenTurnedRow.domain false Rows.tokenTurnedRow.laid) (((OpenSpec.ofChange Rows.tokenTurnedSpec).at F).post enc Tryd.prog Tryd.f7 false true false false) := by
  obtain ⟨places, hx⟩ := reads os enc
  refine returnsInHanded_of_row (C := Tryd.checked) (s := OpenSpec.ofChange Rows.tokenTurnedSpec) own started (by kernel_rfl) Tryd.func7
    (witness_row_at (enc := enc) (C := Tryd.checked) false (World.doorLaid Tryd.prog 2000 os) #[.slice none 0 0, .string ByteArray.empty, .int .i64 0, .int .i64 0, .int .u8 0] rfl (by kernel_rfl) (by kernel_rfl) (by kernel_rfl)
      (OpenSpec.preRow_of_cond 8 hx (by kernel_rfl) (fun k hk => by cases hk) (by kernel_rfl) (laid_met os))) ?_
  intro W base args ds gs before hval hW _ _ _ hL hsh _
  exact contract H enc W base args ds gs before hval hW hL hsh
theorem said : Rows.TokenTurnedSaid :=
  OpenClaim.holds_of_cond 7 Tryd.f7 rfl rfl rfl rfl rfl rfl rfl ⟨rfl, rfl, rfl, rfl, rfl⟩ rfl rfl rfl rfl rfl (by kernel_rfl) Tryd.func7 (by kernel_rfl)
    (of_decide_eq_true (by kernel_rfl)) (by unfold Func.isWrapper; first | (rw [if_pos (by decide +kernel)]; kernel_rfl) | (rw [if_neg (by decide +kernel)]; exact ⟨rfl, rfl⟩))
    (fun os started H enc _ F => by rw [OpenClaim.pre_eq_preRow]; exact lifted os started H enc F)
theorem plain (f : FuncId) (fn : Func) (hf : Tryd.pinned.checked.prog.funcNamed "inquest/inquestlaw05.TokenTurned" = some f) (hfn : Tryd.pinned.checked.prog.funcs[f]? = some fn) :
    true = Tryd.pinned.checked.prog.looks [] ∧ ∀ (j : Nat) t, fn.params[j]? = some t → Tryd.pinned.checked.prog.wantsStandIn t = false := by
  obtain rfl : f = 7 := Option.some.inj ((show Tryd.prog.funcNamed "inquest/inquestlaw05.TokenTurned" = some 7 by kernel_rfl).symm.trans hf) |>.symm
  obtain rfl : fn = Tryd.f7 := (Option.some.inj (Tryd.func7.symm.trans hfn)).symm
  refine ⟨by kernel_rfl, fun j t ht => ?_⟩
  rw [Tryd.params7] at ht
  have hall : ([22, 9, 3, 3, 5].all fun u => !Tryd.prog.wantsStandIn u) = true := by kernel_rfl
  have hm : t ∈ [22, 9, 3, 3, 5] := by simpa using Array.mem_of_getElem? ht
  exact (show Tryd.prog.wantsStandIn t = false by simpa using List.all_eq_true.1 hall t hm)
/-- the tied card -/
theorem card : Rows.TokenTurnedCardSaid :=
  Claim7.holds_tied_plain_at .later [] _ _ _ _ said (fun _ h => by cases h) (by kernel_rfl) (fun _ h => by cases h) tokenTurned_row_tie rfl ⟨rfl, rfl⟩ (by kernel_rfl) rfl plain (by kernel_rfl)
end Go.Proofs.YtdoedkgidcoibaaDoor.tokenTurned
namespace Go.Proofs.YtdoedkgidcoibaaDoor
theorem tokenTurned_holds : Rows.TokenTurnedCardSaid := tokenTurned.card
#print axioms tokenTurned_holds
end Go.Proofs.YtdoedkgidcoibaaDoor
