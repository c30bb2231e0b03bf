/- For every two slices of bytes and every int the law MacLong returns true and the slices read as they did (P3.3): of keys and texts of up to 1000 bytes each, noughts behind a key of at most 64 bytes, up to 64, change nothing, and a longer key is as its sum. The package's table is as the program's text lays it (the card ties it). -/
import Derived.Test.YtglndmkfkmkngaaDoorDoor
import Derived.Test.YtglndmkfkmkngaaDoorMacCheck
import Derived.Test.YtglndmkfkmkngaaDoorAppZeros
import Derived.Test.YtglndmkfkmkngaaDoorLeast
import Derived.Test.YtglndmkfkmkngaaDoorCut
import Derived.WalkKit
import Derived.ShutString
import Derived.ChangeOld
import Derived.Below
namespace Go.Proofs.YtglndmkfkmkngaaDoor.macLong
open Go.ChangeShapes Go.WideShapes Go.ChangeAt Go.RowKit
open Go.ChangeMaps (open_string shut_string)
set_option linter.unusedVariables false

theorem laidOut : laidOutB Tryd.prog = true := by kernel_rfl

/-- WHAT THE WALK IS TOLD OF A SLICE OF INTEGERS THAT CAME IN: it is nil; or it leads to a row of 'cap' cells, the numbers 'zs' (the first 'len' are its elements, the rest its spare room), each fitting its kind. -/
def IsRow (k : IntKind) (w : World) (a : Option Addr) (len cap : Nat) (zs : List Int) : Prop :=
  (a = none ∧ len = 0 ∧ cap = 0 ∧ zs = []) ∨
  ∃ x, a = some x ∧ len ≤ cap ∧ cap ≤ maxLen ∧ zs.length = cap ∧ (∀ i, i < zs.length → w.cell? (x.add i) = some (.int k (zs.getD i 0))) ∧ ∀ n ∈ zs, (Lit.int k n).wf = true


/-- what holds all along the last statement for a long key -/
structure LH (a0 a1 : Option Addr) (n0 n1 c0 c1 Q : Nat) (k t d : List Int) (w wr : World) : Prop where
  tab : Tab wr
  key : Bts wr a0 n0 c0 k
  txt : Bts wr a1 n1 c1 t
  dig : Bts wr (some ⟨Q, 0, none⟩) 32 32 d
  low : Below w.heap.size w wr
theorem LH.step {a0 a1 : Option Addr} {n0 n1 c0 c1 Q : Nat} {k t d : List Int} {w wr w1 : World} (h : LH a0 a1 n0 n1 c0 c1 Q k t d w wr) (hb : Below wr.heap.size wr w1) : LH a0 a1 n0 n1 c0 c1 Q k t d w w1 :=
  ⟨h.tab.below hb, h.key.below hb, h.txt.below hb, h.dig.below hb, bstep h.low hb⟩
theorem LH.drewN {a0 a1 : Option Addr} {n0 n1 c0 c1 Q : Nat} {k t d : List Int} {w wr : World} (h : LH a0 a1 n0 n1 c0 c1 Q k t d w wr) (q : Nat) : LH a0 a1 n0 n1 c0 c1 Q k t d w (wr.drewN q) :=
  ⟨h.tab.drewN q, h.key.drewN q, h.txt.drewN q, h.dig.drewN q, below_drewN h.low q⟩

set_option maxRecDepth 100000 in
set_option maxHeartbeats 1000000 in
theorem walk (a0 : Option Addr) (len0 cap0 : Nat) (z0 : List Int) (a1 : Option Addr) (len1 cap1 : Nat) (z1 : List Int) (a2 : Int) (w : World) (w0 : IsRow .u8 w a0 len0 cap0 z0) (w1 : IsRow .u8 w a1 len1 cap1 z1) (w2 : (Lit.int .i64 a2).wf = true) (htab : Tab w) :
    Calls Tryd.prog 7 #[.slice a0 len0 cap0, .slice a1 len1 cap1, .int .i64 a2] w fun e w' => e = .returned (.bool true) ∧ Below w.heap.size w w' := by
  have r0 : Bts w a0 len0 cap0 (z0.take len0) := Bts.of_row w0
  have r1 : Bts w a1 len1 cap1 (z1.take len1) := Bts.of_row w1
  generalize z0.take len0 = l0 at r0
  generalize z1.take len1 = l1 at r1
  clear w0 w1
  go_enter Tryd.func7, Tryd.ntmps7
  go_wp2_with fail
  refine (cut_any a0 len0 cap0 1000 l0 _ r0 (by decide)).mono ?_
  rintro e w' ⟨⟨n0, rfl, h0⟩, rfl⟩
  go_wp2_with fail
  refine (cut_any a1 len1 cap1 1000 l1 _ r1 (by decide)).mono ?_
  rintro e w' ⟨⟨n1, rfl, h1⟩, rfl⟩
  have hn0 : n0 ≤ 1000 := by have := h0.len_eq; rw [List.length_take] at this; omega
  have hn1 : n1 ≤ 1000 := by have := h1.len_eq; rw [List.length_take] at this; omega
  generalize l0.take 1000 = k at h0
  generalize l1.take 1000 = t at h1
  clear r0 r1
  by_cases hlong : 64 < n0
  · have hgt : (64 : Int) < (n0 : Int) := by omega
    have hkl := h0.len_eq
    go_wp2_with fail
    refine (sum_any _ _ _ k _ h0 htab (by omega)).mono ?_
    rintro e w1 ⟨rfl, hb1⟩
    have hML := macL_long t (show 64 < k.length by omega)
    have hl := sumL_length k
    have hby := sumL_byt k
    generalize sumL k = d at hl hby hML ⊢
    generalize hDD : (bv d).toArray = D1
    obtain ⟨hdv, hth, hinf, hone⟩ := dig_var w1 d hl D1 hDD.symm
    have HTH : Bx ((w1.alloc (.cells #[.int .u8 0, .int .u8 0, .int .u8 0, .int .u8 0, .int .u8 0, .int .u8 0, .int .u8 0, .int .u8 0, .int .u8 0, .int .u8 0, .int .u8 0, .int .u8 0, .int .u8 0, .int .u8 0, .int .u8 0, .int .u8 0, .int .u8 0, .int .u8 0, .int .u8 0, .int .u8 0, .int .u8 0, .int .u8 0, .int .u8 0, .int .u8 0, .int .u8 0, .int .u8 0, .int .u8 0, .int .u8 0, .int .u8 0, .int .u8 0, .int .u8 0, .int .u8 0] 26)).there w1.heap.size 0 D1.size) := ⟨hth⟩
    have HDV : Bx (LH a0 a1 n0 n1 cap0 cap1 w1.heap.size k t d w ((w1.alloc (.cells #[.int .u8 0, .int .u8 0, .int .u8 0, .int .u8 0, .int .u8 0, .int .u8 0, .int .u8 0, .int .u8 0, .int .u8 0, .int .u8 0, .int .u8 0, .int .u8 0, .int .u8 0, .int .u8 0, .int .u8 0, .int .u8 0, .int .u8 0, .int .u8 0, .int .u8 0, .int .u8 0, .int .u8 0, .int .u8 0, .int .u8 0, .int .u8 0, .int .u8 0, .int .u8 0, .int .u8 0, .int .u8 0, .int .u8 0, .int .u8 0, .int .u8 0, .int .u8 0] 26)).setCells w1.heap.size 0 D1.toList)) :=
      ⟨⟨(htab.below hb1).below hdv.low, (h0.below hb1).below hdv.low, (h1.below hb1).below hdv.low, hdv.bts hby hl, bstep hb1 hdv.low⟩⟩
    have HINF : Bx ((Tryd.prog.info? 26).map (·.size) = some D1.size) := ⟨hinf⟩
    have HONE : Bx (D1.all (·.oneCell') = true) := ⟨hone⟩
    have hda := dig_all w1.heap.size
    clear hdv hth hinf hone hDD h0 h1 hb1 htab
    go_wp2_with (refine wpList_store_mid rfl 26 (.tmp 7) (.tmp 16) rfl w1.heap.size 0 D1 rfl rfl HTH.out HINF.out HONE.out ?_; have hlh := HDV.out; generalize (w1.alloc (.cells #[.int .u8 0, .int .u8 0, .int .u8 0, .int .u8 0, .int .u8 0, .int .u8 0, .int .u8 0, .int .u8 0, .int .u8 0, .int .u8 0, .int .u8 0, .int .u8 0, .int .u8 0, .int .u8 0, .int .u8 0, .int .u8 0, .int .u8 0, .int .u8 0, .int .u8 0, .int .u8 0, .int .u8 0, .int .u8 0, .int .u8 0, .int .u8 0, .int .u8 0, .int .u8 0, .int .u8 0, .int .u8 0, .int .u8 0, .int .u8 0, .int .u8 0, .int .u8 0] 26)).setCells w1.heap.size 0 D1.toList = w2 at hlh ⊢; clear HDV HTH HINF HONE)
    generalize w1.heap.size = Q at hlh hda ⊢
    have heq := dig_eq (macL k t) (macL_len k t)
    have HC : Bx (∀ w' v, v = .slice a0 n0 cap0 ∨ v = .slice (some ⟨Q, 0, none⟩) 32 32 → LH a0 a1 n0 n1 cap0 cap1 Q k t d w w' → Calls Tryd.prog 11 #[v, .slice a1 n1 cap1] w' fun e w'' => e = .returned (.agg (bv (macL k t)).toArray) ∧ Below w'.heap.size w' w'') := ⟨fun w' v hv h => by
      rcases hv with rfl | rfl
      · exact mac_any _ _ _ _ _ _ k t _ h.key h.txt h.tab (by omega) (by omega)
      · rw [← hML]; exact mac_any _ _ _ _ _ _ d t _ h.dig h.txt h.tab (by decide) (by omega)⟩
    generalize (bv (macL k t)).toArray = D at heq HC
    have hl0 := hlh.drewN 1
    clear hML hl hby
    go_region_held3 (fun w' => LH a0 a1 n0 n1 cap0 cap1 Q k t d w w') (first | (exact hl0) | (exact LH.step (by assumption) hb5)) (first | (go_at_call 11; refine (HC.out _ _ (by first | exact .inl rfl | exact .inr rfl) (by assumption)).mono ?_; rintro e5 w5 ⟨rfl, hb5⟩) | (go_at_call 14; refine (lives_any _ (LH.tab (by assumption))).mono ?_; rintro e5 w5 ⟨rfl, hb5⟩))
    rename_i hHeld
    have hlow := hHeld.low
    clear hHeld hl0 hb5 heq HC hlh hda
    go_wp2
    go_ret
    exact ⟨rfl, hlow⟩
  · have hgt : ¬ (64 : Int) < (n0 : Int) := by omega
    have hkl := h0.len_eq
    go_wp2_with fail
    obtain ⟨j, hj, hjl⟩ : ∃ j : Nat, leastV a2 0 (64 - (n0 : Int)) = (j : Int) ∧ n0 + j ≤ 64 := by
      refine ⟨(leastV a2 0 (64 - (n0 : Int))).toNat, ?_, ?_⟩ <;> unfold leastV <;> split <;> (try split) <;> omega
    refine (least_any _ _ _ _).mono ?_
    rintro e w' ⟨rfl, rfl⟩
    rw [hj]
    clear hj
    go_wp2_with fail
    refine (copy_any _ _ _ k _ h0 (by omega)).mono ?_
    rintro e w2 ⟨v2, rfl, hown2, hb2⟩
    have hbyt := h0.byt
    go_wp2_with (at_builtin; refine wpList_app_zeros rfl _ _ rfl w.heap.size n0 j v2 k rfl rfl hown2 (by omega) hb2.size ?_)
    intro v3 w3 hown3 hb3
    have HM : Bx (macL (k ++ List.replicate j 0) t = macL k t) := ⟨macL_zeros k t j (by omega)⟩
    have hkz : Byt (k ++ List.replicate j 0) := hbyt.append (zeros_byt j)
    generalize k ++ List.replicate j 0 = kz at hown3 HM hkz
    obtain ⟨a3, c3, rfl, hk3⟩ := Bts.of_owns hown3 hkz
    have hlow3 := hb2.trans hb3
    have h03 := h0.below hlow3
    have h13 := h1.below hlow3
    have ht3 := htab.below hlow3
    clear h0 h1 htab hown2 hown3 hb2 hb3
    go_wp2_with fail
    refine (mac_any _ _ _ _ _ _ kz t _ hk3 h13 ht3 (by omega) (by omega)).mono ?_
    rintro e w4 ⟨rfl, hb4⟩
    rw [HM.out]
    have h04 := h03.below hb4
    have h14 := h13.below hb4
    have ht4 := ht3.below hb4
    have hlow4 := bstep hlow3 hb4
    clear h03 h13 ht3 hlow3 hk3 HM
    go_wp2_with fail
    refine (mac_any _ _ _ _ _ _ k t _ h04 h14 ht4 (by omega) (by omega)).mono ?_
    rintro e w5 ⟨rfl, hb5⟩
    have ht5 := ht4.below hb5
    have hlow5 := bstep hlow4 hb5
    have heq := dig_eq (macL k t) (macL_len k t)
    generalize (bv (macL k t)).toArray = D at heq ⊢
    clear h04 h14 ht4 hlow4
    go_wp2_with fail
    refine (lives_any _ ht5).mono ?_
    rintro e w6 ⟨rfl, hb6⟩
    go_wp2
    go_ret
    exact ⟨rfl, hlow5.trans (hb6.mono hlow5.size)⟩

/-- what the walk gives, for every argument and every world that holds the table -/
theorem contract (H : Type) (enc : TypeId × Value → H) (W : World) (base : Nat) (args : Array Value) (ds gs : List (DataW H)) (before : List MemPlace)
    (hval0 : ∀ (j : Nat) t v, Tryd.f7.params[j]? = some t → args[j]? = some v → Value.okWide Tryd.prog W .any base t v)
    (hW : DataW.Whole enc Tryd.prog Tryd.f7.params.toList Rows.macLongSpec.vars false W args.toList ds gs before) (hL : laidMetH Tryd.prog Rows.macLongRow.laid W) :
    Calls Tryd.prog 7 args W fun e W' => ∃ v, e = .returned v ∧ Rows.macLongSpec.post enc Tryd.prog Tryd.f7 false true false false W args v W' := by
  have htab := tab_of_laid hL
  have hval : ∀ (j : Nat) t v, Tryd.f7.params[j]? = some t → args[j]? = some v → Value.okWide Tryd.prog W .any base t v := hval0
  have hW' := hW
  obtain ⟨p, q, hA0, hV, rfl, hfz, hnd⟩ := hW
  have hA : DataW.TrodAll enc Tryd.prog W 0 (fun _ => true) true Tryd.f7.params.toList args.toList ds p := hA0
  rw [Tryd.params7] at hA hval
  obtain ⟨v0, vs0, d0, ds0, p0, q0, hargs, rfl, rfl, h0, r0⟩ := trodAll_cons hA
  obtain ⟨v1, vs1, d1, ds1, p1, q1, rfl, rfl, rfl, h1, r1⟩ := trodAll_cons r0
  obtain ⟨v2, vs2, d2, ds2, p2, q2, rfl, rfl, rfl, h2, r2⟩ := trodAll_cons r1
  obtain ⟨rfl, rfl, rfl⟩ := trodAll_nil r2
  obtain rfl : args = #[v0, v1, v2] := by cases args; simp_all
  obtain ⟨rfl, rfl⟩ := trodVars_none hV
  obtain ⟨a0, len0, cap0, rfl⟩ := okWide_slice Tryd.underlying22 (hval 0 22 v0 rfl rfl)
  have k0 := h0
  have lt0 : ∀ x ∈ p0, x.block < W.heap.size := by obtain ⟨m, hm⟩ := k0; exact DataW.trod_lt m _ _ _ hm
  obtain ⟨z0, w0⟩ : ∃ zs, IsRow .u8 W a0 len0 cap0 zs := by
    obtain ⟨fuel, hf⟩ := h0
    rcases open_ints Tryd.underlying22 Tryd.underlying5 (by kernel_rfl) hf with ⟨hcs, _⟩ | ⟨x, l, c, zs, hcs, _, hl, hm, hz, _, hcell, hwz⟩
    · simp [Value.cells] at hcs
      obtain ⟨rfl, rfl, rfl⟩ := hcs
      exact ⟨[], .inl ⟨rfl, rfl, rfl, rfl⟩⟩
    · simp [Value.cells] at hcs
      obtain ⟨rfl, rfl, rfl⟩ := hcs
      exact ⟨zs, .inr ⟨_, rfl, hl, hm, by simpa using hz, hcell, hwz⟩⟩
  obtain ⟨a1, len1, cap1, rfl⟩ := okWide_slice Tryd.underlying22 (hval 1 22 v1 rfl rfl)
  have k1 := h1
  have lt1 : ∀ x ∈ p1, x.block < W.heap.size := by obtain ⟨m, hm⟩ := k1; exact DataW.trod_lt m _ _ _ hm
  obtain ⟨z1, w1⟩ : ∃ zs, IsRow .u8 W a1 len1 cap1 zs := by
    obtain ⟨fuel, hf⟩ := h1
    rcases open_ints Tryd.underlying22 Tryd.underlying5 (by kernel_rfl) hf with ⟨hcs, _⟩ | ⟨x, l, c, zs, hcs, _, hl, hm, hz, _, hcell, hwz⟩
    · simp [Value.cells] at hcs
      obtain ⟨rfl, rfl, rfl⟩ := hcs
      exact ⟨[], .inl ⟨rfl, rfl, rfl, rfl⟩⟩
    · simp [Value.cells] at hcs
      obtain ⟨rfl, rfl, rfl⟩ := hcs
      exact ⟨zs, .inr ⟨_, rfl, hl, hm, by simpa using hz, hcell, hwz⟩⟩
  obtain ⟨a2, rfl, rfl, rfl, w2⟩ := open_int Tryd.underlying3 (hval 2 3 v2 rfl rfl) h2
  clear hA0 hval0
  refine (walk a0 len0 cap0 z0 a1 len1 cap1 z1 a2 W w0 w1 w2 htab).mono fun e W' ⟨he, bel⟩ => ?_
  subst he
  exact ⟨_, rfl, _, _, _, [], _, [], hW', trodAll_mk1 (shut_bool Tryd.underlying4 _), (trodAll_cons_mk (Below.trod laidOut (by kernel_rfl) (of_decide_eq_true (by kernel_rfl)) k0 bel lt0) (trodAll_cons_mk (Below.trod laidOut (by kernel_rfl) (of_decide_eq_true (by kernel_rfl)) k1 bel lt1) (trodAll_cons_mk (shut_int Tryd.underlying3 w2) trodAll_mk0))), rfl, bel.frame _, fun h => by cases h⟩

set_option maxRecDepth 100000 in
theorem laid_met (os : Os) : laidMet Tryd.prog Rows.macLongRow.laid (({ World.holding Tryd.prog os ⟨#[], #[], []⟩ with heap := (World.holding Tryd.prog os ⟨#[], #[], []⟩).heap.setIfInBounds 0 (.cells (uv keyL).toArray 64) } : World).forCall (fun _ _ => 0) ⟨#[], #[.slice none 0 0, .slice none 0 0, .int .i64 0], []⟩).memory :=
  laidMet_of_run' 8 (by kernel_rfl) (by kernel_rfl)
theorem reads (os : Os) {H : Type} (enc : TypeId × Value → H) : ∃ places, DataW.whole enc Tryd.prog (({ World.holding Tryd.prog os ⟨#[], #[], []⟩ with heap := (World.holding Tryd.prog os ⟨#[], #[], []⟩).heap.setIfInBounds 0 (.cells (uv keyL).toArray 64) } : World).forCall (fun _ _ => 0) ⟨#[], #[.slice none 0 0, .slice none 0 0, .int .i64 0], []⟩).memory Tryd.f7.params.toList Rows.macLongSpec.vars false (#[.slice none 0 0, .slice none 0 0, .int .i64 0] : Array Value).toList 8 = some ([.nil, .nil, .lit (.int .i64 0)], [], places) :=
  ⟨[], by kernel_rfl⟩
set_option maxRecDepth 100000 in
theorem lifted (os : Os) (started : os.Started) (H : Type) (enc : TypeId × Value → H) (F : Stop.Interp) :
    ReturnsInHanded {} Tryd.checked os 7 .any ((OpenSpec.ofChange Rows.macLongSpec).preRow enc Tryd.prog Tryd.f7 Rows.macLongRow.domain false Rows.macLongRow.laid) (((OpenSpec.ofChange Rows.macLongSpec).at F).post enc Tryd.prog Tryd.f7 false true false false) := by
  obtain ⟨places, hx⟩ := reads os enc
  refine returnsInHanded_of_row (C := Tryd.checked) (s := OpenSpec.ofChange Rows.macLongSpec) own started (by kernel_rfl) Tryd.func7
    (witness_row_at (enc := enc) (C := Tryd.checked) false ({ World.holding Tryd.prog os ⟨#[], #[], []⟩ with heap := (World.holding Tryd.prog os ⟨#[], #[], []⟩).heap.setIfInBounds 0 (.cells (uv keyL).toArray 64) } : World) #[.slice none 0 0, .slice none 0 0, .int .i64 0] rfl (by kernel_rfl) (by kernel_rfl) (by kernel_rfl)
      (OpenSpec.preRow_of_cond 8 hx (by kernel_rfl) (fun k hk => by cases hk) (by kernel_rfl) (laid_met os))) ?_
  intro W base args ds gs before hval hW _ _ _ hL _ _
  exact contract H enc W base args ds gs before hval hW hL
theorem said : Rows.MacLongSaid :=
  OpenClaim.holds_of_cond 7 Tryd.f7 rfl rfl rfl rfl rfl rfl rfl ⟨rfl, rfl, rfl, rfl, rfl⟩ rfl rfl rfl rfl rfl (by kernel_rfl) Tryd.func7 (by kernel_rfl)
    (of_decide_eq_true (by kernel_rfl)) (by unfold Func.isWrapper; first | (rw [if_pos (by decide +kernel)]; kernel_rfl) | (rw [if_neg (by decide +kernel)]; exact ⟨rfl, rfl⟩))
    (fun os started H enc _ F => by rw [OpenClaim.pre_eq_preRow]; exact lifted os started H enc F)
theorem plain (f : FuncId) (fn : Func) (hf : Tryd.pinned.checked.prog.funcNamed "inquest/inquestlaw03.MacLong" = some f) (hfn : Tryd.pinned.checked.prog.funcs[f]? = some fn) :
    false = Tryd.pinned.checked.prog.looks [] ∧ ∀ (j : Nat) t, fn.params[j]? = some t → Tryd.pinned.checked.prog.wantsStandIn t = false := by
  obtain rfl : f = 7 := Option.some.inj ((show Tryd.prog.funcNamed "inquest/inquestlaw03.MacLong" = some 7 by kernel_rfl).symm.trans hf) |>.symm
  obtain rfl : fn = Tryd.f7 := (Option.some.inj (Tryd.func7.symm.trans hfn)).symm
  refine ⟨by kernel_rfl, fun j t ht => ?_⟩
  rw [Tryd.params7] at ht
  have hall : ([22, 22, 3].all fun u => !Tryd.prog.wantsStandIn u) = true := by kernel_rfl
  have hm : t ∈ [22, 22, 3] := by simpa using Array.mem_of_getElem? ht
  exact (show Tryd.prog.wantsStandIn t = false by simpa using List.all_eq_true.1 hall t hm)
/-- the tied card -/
theorem card : Rows.MacLongCardSaid :=
  Claim7.holds_tied_plain_at .later [] _ _ _ _ said (fun _ h => by cases h) (by kernel_rfl) (fun _ h => by cases h) macLong_row_tie rfl ⟨rfl, rfl⟩ (by kernel_rfl) rfl plain (by kernel_rfl)
end Go.Proofs.YtglndmkfkmkngaaDoor.macLong
namespace Go.Proofs.YtglndmkfkmkngaaDoor
theorem macLong_holds : Rows.MacLongCardSaid := macLong.card
#print axioms macLong_holds
end Go.Proofs.YtglndmkfkmkngaaDoor
