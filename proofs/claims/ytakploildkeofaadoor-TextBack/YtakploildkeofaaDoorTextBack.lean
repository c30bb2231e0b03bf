/- For every slice of bytes, every int and every text the law TextBack returns true and they read as they did (P4.5): of up to 300 bytes and letters, what is written is read, and what is read is written so. The library's tables and errors are as the program's text lays them (the card ties them). -/
import Derived.Test.YtakploildkeofaaDoorTDoor
import Derived.LaidMore
import Derived.Test.YtakploildkeofaaDoorReadAny
import Derived.Test.YtakploildkeofaaDoorSCut
import Derived.Test.YtakploildkeofaaDoorSame
import Derived.Test.YtakploildkeofaaDoorCut
import Derived.Test.YtakploildkeofaaDoorUnhex
import Derived.Test.YtakploildkeofaaDoorBackMath
import Derived.WalkKit
import Derived.ShutString
import Derived.ChangeOld
import Derived.Below
namespace Go.Proofs.YtakploildkeofaaDoor.textBack
open Go.ChangeShapes Go.WideShapes Go.ChangeAt Go.RowKit
open Go.ChangeMaps (open_string shut_string)
set_option linter.unusedVariables false

theorem laidOut : laidOutB Tryd.prog = true := by kernel_rfl

/-- WHAT THE WALK IS TOLD OF A SLICE OF INTEGERS THAT CAME IN: it is nil; or it leads to a row of 'cap' cells, the numbers 'zs' (the first 'len' are its elements, the rest its spare room), each fitting its kind. -/
def IsRow (k : IntKind) (w : World) (a : Option Addr) (len cap : Nat) (zs : List Int) : Prop :=
  (a = none ∧ len = 0 ∧ cap = 0 ∧ zs = []) ∨
  ∃ x, a = some x ∧ len ≤ cap ∧ cap ≤ maxLen ∧ zs.length = cap ∧ (∀ i, i < zs.length → w.cell? (x.add i) = some (.int k (zs.getD i 0))) ∧ ∀ n ∈ zs, (Lit.int k n).wf = true


set_option maxRecDepth 100000 in
set_option maxHeartbeats 1000000 in
theorem walk (a0 : Option Addr) (len0 cap0 : Nat) (z0 : List Int) (a1 : Int) (a2 : ByteArray) (w : World) (w0 : IsRow .u8 w a0 len0 cap0 z0) (w1 : (Lit.int .i64 a1).wf = true) (w2 : a2.size ≤ maxLen) (hL : laidMetH Tryd.prog Rows.textBackRow.laid w) (hsh : w.ShapedOpen Tryd.prog) :
    Calls Tryd.prog 7 #[.slice a0 len0 cap0, .int .i64 a1, .string a2] w fun e w' => e = .returned (.bool true) ∧ Below w.heap.size w w' := by
  have hL' := plainH hL (by kernel_rfl)
  have ht := tens_of_third hL'
  have he := errs_of_last hL'
  clear hL hL' hsh
  have wi : -9223372036854775808 ≤ a1 ∧ a1 ≤ 9223372036854775807 := by
    simp [Lit.wf] at w1; exact w1
  have hs1 : a2.size ≤ 9223372036854775807 := w2
  have r0 : Bts w a0 len0 cap0 (z0.take len0) := Bts.of_row w0
  generalize z0.take len0 = l0 at r0
  clear w0 w1 w2
  go_enter Tryd.func7, Tryd.ntmps7
  go_wp2_with fail
  refine (cut_any a0 len0 cap0 300 l0 _ r0 (by decide)).mono ?_
  rintro e w' ⟨⟨n0, rfl, h0⟩, rfl⟩
  go_wp2_with fail
  refine (scut_any a2 300 _ hs1).mono ?_
  rintro e w' ⟨⟨s, rfl, hs⟩, rfl⟩
  have hn0 : n0 ≤ 300 := by have := h0.len_eq; rw [List.length_take] at this; omega
  generalize l0.take 300 = b at h0
  have HB : Hid (unhexV (strOf (hexL b)) = some b) := un_hex h0.byt
  have HZ : Hid ((strOf (hexL b)).size ≤ 600) := by show _ ≤ _; rw [strOf_size, hexL_length, h0.len_eq]; omega
  clear r0 hs1
  go_wp2_with fail
  refine (hex_any _ _ _ b _ h0 (by omega)).mono ?_
  rintro e w1 ⟨rfl, hb1⟩
  replace h0 := h0.below hb1
  replace ht := ht.below hb1
  replace he := he.below hb1
  generalize strOf (hexL b) = S at HB HZ
  go_wp2_with fail
  refine (unhex_any S _ (Nat.le_trans HZ.out (by decide))).mono ?_
  rintro e w2 ⟨a3, n3, c3, rfl, hp, hb2⟩
  rw [HB.out] at hp ⊢
  simp only [Option.getD_some, Option.isSome_some] at hp ⊢
  replace h0 := h0.below hb2
  replace ht := ht.below hb2
  replace he := he.below hb2
  replace hb2 := bstep hb1 hb2
  clear hb1 HB HZ
  go_wp2_with fail
  refine (same_yes _ _ _ _ _ _ b _ hp h0).mono ?_
  rintro e w3 ⟨rfl, q3, hq3⟩
  have hb3 : Below w2.heap.size w2 w3 := by rw [hq3]; exact below_drewN (Below.refl _ _) q3
  replace ht := ht.below hb3
  replace he := he.below hb3
  replace hb3 := bstep hb2 hb3
  clear hb2 hq3 hp h0
  go_wp2_with fail
  refine (dec_any a1 wi.1 wi.2 _ ht).mono ?_
  rintro e w4 ⟨rfl, hb4⟩
  replace ht := ht.below hb4
  replace he := he.below hb4
  replace hb4 := bstep hb3 hb4
  clear hb3
  have HZ : Hid ((decS a1).size ≤ 21) := decS_size wi.1 wi.2
  have HN : Hid (a1 < 0 → rdv (decS a1).data.toList = none) := rd_neg
  have HP : Hid (0 ≤ a1 → rdv (decS a1).data.toList = some a1) := fun h => rdv_yes h wi.2 rfl
  have hD : (⟨(Lib.itoa a1).toArray⟩ : ByteArray) = decS a1 := rfl
  rw [hD]
  clear hD
  generalize decS a1 = D at HZ HN HP
  go_wp2_with fail
  refine (read_any D _ (Nat.le_trans HZ.out (by decide)) ht he).mono ?_
  rintro e w5 ⟨hr, hb5⟩
  unfold RdP at hr
  subst hr
  replace ht := ht.below hb5
  replace he := he.below hb5
  replace hb5 := bstep hb4 hb5
  clear hb4
  have HU : Hid (∀ l, unhexV s = some l → strOf (hexL l) = s ∧ l.length ≤ 300) := fun l h => ⟨hex_un h, by have := (un_len h).1; omega⟩
  have HR : Hid (∀ v, rdv s.data.toList = some v → decS v = s ∧ 0 ≤ v ∧ v ≤ 9223372036854775807) := fun v h => rd_back h
  by_cases hneg : a1 < 0
  · rw [HN.out hneg]
    simp only [Option.getD_none, Option.isSome_none]
    have k1 : decide (0 ≤ a1) = false := by simp; omega
    have k2 : ¬ 0 ≤ a1 := by omega
    have k3 : (false != false) = false := rfl
    clear HN HP HZ
    go_wp2_with fail
    refine (unhex_any s _ (by omega)).mono ?_
    rintro e w6 ⟨a6, n6, c6, rfl, hp, hb6⟩
    replace ht := ht.below hb6
    replace he := he.below hb6
    replace hb6 := bstep hb5 hb6
    clear hb5
    cases hcu : unhexV s with
    | none =>
      simp only [Option.isSome_none]
      clear hcu HU hp
      go_wp2_with fail
      refine (read_any s _ (by omega) ht he).mono ?_
      rintro e w8 ⟨hr, hb8⟩
      unfold RdP at hr
      subst hr
      replace ht := ht.below hb8
      replace hb8 := bstep hb6 hb8
      clear he hb6
      cases hcr : rdv s.data.toList with
      | none =>
        simp only [Option.getD_none, Option.isSome_none]
        clear hcr HR ht
        go_wp2_with fail
        refine (lives_any _).mono ?_
        rintro e w' ⟨rfl, rfl⟩
        go_wp2
        go_ret
        exact ⟨rfl, hb8⟩
      | some v =>
        obtain ⟨f1, f2, f3⟩ := HR.out v hcr
        simp only [Option.getD_some, Option.isSome_some]
        have HF : Hid (decS v = s) := f1
        clear hcr HR f1
        go_wp2_with fail
        refine (dec_any v (by omega) f3 _ ht).mono ?_
        rintro e w9 ⟨rfl, hb9⟩
        replace hb9 := bstep hb8 hb9
        have hD : (⟨(Lib.itoa v).toArray⟩ : ByteArray) = s := HF.out
        rw [hD]
        have hss : (s.toList == s.toList) = true := by simp
        have hv0 : decide (0 ≤ v) = true := by simpa using f2
        clear hD HF ht hb8
        go_wp2_with fail
        refine (lives_any _).mono ?_
        rintro e w' ⟨rfl, rfl⟩
        go_wp2
        go_ret
        exact ⟨rfl, hb9⟩
    | some l =>
      rw [hcu] at hp
      obtain ⟨g1, g2⟩ := HU.out l hcu
      simp only [Option.isSome_some]
      simp only [Option.getD_some] at hp
      have hn6 : n6 ≤ 300 := by have := hp.len_eq; omega
      have HG : Hid (strOf (hexL l) = s) := g1
      clear hcu HU g1 g2
      go_wp2_with fail
      refine (hex_any _ _ _ l _ hp (by omega)).mono ?_
      rintro e w7 ⟨rfl, hb7⟩
      rw [HG.out]
      have hsn : (s.toList == s.toList) = true := by simp
      replace ht := ht.below hb7
      replace he := he.below hb7
      replace hb7 := bstep hb6 hb7
      clear hb6 hp HG
      go_wp2_with fail
      refine (read_any s _ (by omega) ht he).mono ?_
      rintro e w8 ⟨hr, hb8⟩
      unfold RdP at hr
      subst hr
      replace ht := ht.below hb8
      replace hb8 := bstep hb7 hb8
      clear he hb7
      cases hcr : rdv s.data.toList with
      | none =>
        simp only [Option.getD_none, Option.isSome_none]
        clear hcr HR ht
        go_wp2_with fail
        refine (lives_any _).mono ?_
        rintro e w' ⟨rfl, rfl⟩
        go_wp2
        go_ret
        exact ⟨rfl, hb8⟩
      | some v =>
        obtain ⟨f1, f2, f3⟩ := HR.out v hcr
        simp only [Option.getD_some, Option.isSome_some]
        have HF : Hid (decS v = s) := f1
        clear hcr HR f1
        go_wp2_with fail
        refine (dec_any v (by omega) f3 _ ht).mono ?_
        rintro e w9 ⟨rfl, hb9⟩
        replace hb9 := bstep hb8 hb9
        have hD : (⟨(Lib.itoa v).toArray⟩ : ByteArray) = s := HF.out
        rw [hD]
        have hss : (s.toList == s.toList) = true := by simp
        have hv0 : decide (0 ≤ v) = true := by simpa using f2
        clear hD HF ht hb8
        go_wp2_with fail
        refine (lives_any _).mono ?_
        rintro e w' ⟨rfl, rfl⟩
        go_wp2
        go_ret
        exact ⟨rfl, hb9⟩
  · rw [HP.out (by omega)]
    simp only [Option.getD_some, Option.isSome_some]
    have k1 : decide (0 ≤ a1) = true := by simp; omega
    have k2 : 0 ≤ a1 := by omega
    have k3 : (a1 != a1) = false := by simp
    have k4 : (true != true) = false := rfl
    clear HN HP HZ
    go_wp2_with fail
    refine (unhex_any s _ (by omega)).mono ?_
    rintro e w6 ⟨a6, n6, c6, rfl, hp, hb6⟩
    replace ht := ht.below hb6
    replace he := he.below hb6
    replace hb6 := bstep hb5 hb6
    clear hb5
    cases hcu : unhexV s with
    | none =>
      simp only [Option.isSome_none]
      clear hcu HU hp
      go_wp2_with fail
      refine (read_any s _ (by omega) ht he).mono ?_
      rintro e w8 ⟨hr, hb8⟩
      unfold RdP at hr
      subst hr
      replace ht := ht.below hb8
      replace hb8 := bstep hb6 hb8
      clear he hb6
      cases hcr : rdv s.data.toList with
      | none =>
        simp only [Option.getD_none, Option.isSome_none]
        clear hcr HR ht
        go_wp2_with fail
        refine (lives_any _).mono ?_
        rintro e w' ⟨rfl, rfl⟩
        go_wp2
        go_ret
        exact ⟨rfl, hb8⟩
      | some v =>
        obtain ⟨f1, f2, f3⟩ := HR.out v hcr
        simp only [Option.getD_some, Option.isSome_some]
        have HF : Hid (decS v = s) := f1
        clear hcr HR f1
        go_wp2_with fail
        refine (dec_any v (by omega) f3 _ ht).mono ?_
        rintro e w9 ⟨rfl, hb9⟩
        replace hb9 := bstep hb8 hb9
        have hD : (⟨(Lib.itoa v).toArray⟩ : ByteArray) = s := HF.out
        rw [hD]
        have hss : (s.toList == s.toList) = true := by simp
        have hv0 : decide (0 ≤ v) = true := by simpa using f2
        clear hD HF ht hb8
        go_wp2_with fail
        refine (lives_any _).mono ?_
        rintro e w' ⟨rfl, rfl⟩
        go_wp2
        go_ret
        exact ⟨rfl, hb9⟩
    | some l =>
      rw [hcu] at hp
      obtain ⟨g1, g2⟩ := HU.out l hcu
      simp only [Option.isSome_some]
      simp only [Option.getD_some] at hp
      have hn6 : n6 ≤ 300 := by have := hp.len_eq; omega
      have HG : Hid (strOf (hexL l) = s) := g1
      clear hcu HU g1 g2
      go_wp2_with fail
      refine (hex_any _ _ _ l _ hp (by omega)).mono ?_
      rintro e w7 ⟨rfl, hb7⟩
      rw [HG.out]
      have hsn : (s.toList == s.toList) = true := by simp
      replace ht := ht.below hb7
      replace he := he.below hb7
      replace hb7 := bstep hb6 hb7
      clear hb6 hp HG
      go_wp2_with fail
      refine (read_any s _ (by omega) ht he).mono ?_
      rintro e w8 ⟨hr, hb8⟩
      unfold RdP at hr
      subst hr
      replace ht := ht.below hb8
      replace hb8 := bstep hb7 hb8
      clear he hb7
      cases hcr : rdv s.data.toList with
      | none =>
        simp only [Option.getD_none, Option.isSome_none]
        clear hcr HR ht
        go_wp2_with fail
        refine (lives_any _).mono ?_
        rintro e w' ⟨rfl, rfl⟩
        go_wp2
        go_ret
        exact ⟨rfl, hb8⟩
      | some v =>
        obtain ⟨f1, f2, f3⟩ := HR.out v hcr
        simp only [Option.getD_some, Option.isSome_some]
        have HF : Hid (decS v = s) := f1
        clear hcr HR f1
        go_wp2_with fail
        refine (dec_any v (by omega) f3 _ ht).mono ?_
        rintro e w9 ⟨rfl, hb9⟩
        replace hb9 := bstep hb8 hb9
        have hD : (⟨(Lib.itoa v).toArray⟩ : ByteArray) = s := HF.out
        rw [hD]
        have hss : (s.toList == s.toList) = true := by simp
        have hv0 : decide (0 ≤ v) = true := by simpa using f2
        clear hD HF ht hb8
        go_wp2_with fail
        refine (lives_any _).mono ?_
        rintro e w' ⟨rfl, rfl⟩
        go_wp2
        go_ret
        exact ⟨rfl, hb9⟩

/-- what the walk gives, for every argument and every world that holds the table -/
theorem contract (H : Type) (enc : TypeId × Value → H) (W : World) (base : Nat) (args : Array Value) (ds gs : List (DataW H)) (before : List MemPlace)
    (hval0 : ∀ (j : Nat) t v, Tryd.f7.params[j]? = some t → args[j]? = some v → Value.okWide Tryd.prog W .any base t v)
    (hW : DataW.Whole enc Tryd.prog Tryd.f7.params.toList Rows.textBackSpec.vars false W args.toList ds gs before) (hL : laidMetH Tryd.prog Rows.textBackRow.laid W) (hsh : W.ShapedOpen Tryd.prog) :
    Calls Tryd.prog 7 args W fun e W' => ∃ v, e = .returned v ∧ Rows.textBackSpec.post enc Tryd.prog Tryd.f7 false true false false W args v W' := by
  have hval : ∀ (j : Nat) t v, Tryd.f7.params[j]? = some t → args[j]? = some v → Value.okWide Tryd.prog W .any base t v := hval0
  have hW' := hW
  obtain ⟨p, q, hA0, hV, rfl, hfz, hnd⟩ := hW
  have hA : DataW.TrodAll enc Tryd.prog W 0 (fun _ => true) true Tryd.f7.params.toList args.toList ds p := hA0
  rw [Tryd.params7] at hA hval
  obtain ⟨v0, vs0, d0, ds0, p0, q0, hargs, rfl, rfl, h0, r0⟩ := trodAll_cons hA
  obtain ⟨v1, vs1, d1, ds1, p1, q1, rfl, rfl, rfl, h1, r1⟩ := trodAll_cons r0
  obtain ⟨v2, vs2, d2, ds2, p2, q2, rfl, rfl, rfl, h2, r2⟩ := trodAll_cons r1
  obtain ⟨rfl, rfl, rfl⟩ := trodAll_nil r2
  obtain rfl : args = #[v0, v1, v2] := by cases args; simp_all
  obtain ⟨rfl, rfl⟩ := trodVars_none hV
  obtain ⟨a0, len0, cap0, rfl⟩ := okWide_slice Tryd.underlying22 (hval 0 22 v0 rfl rfl)
  have k0 := h0
  have lt0 : ∀ x ∈ p0, x.block < W.heap.size := by obtain ⟨m, hm⟩ := k0; exact DataW.trod_lt m _ _ _ hm
  obtain ⟨z0, w0⟩ : ∃ zs, IsRow .u8 W a0 len0 cap0 zs := by
    obtain ⟨fuel, hf⟩ := h0
    rcases open_ints Tryd.underlying22 Tryd.underlying5 (by kernel_rfl) hf with ⟨hcs, _⟩ | ⟨x, l, c, zs, hcs, _, hl, hm, hz, _, hcell, hwz⟩
    · simp [Value.cells] at hcs
      obtain ⟨rfl, rfl, rfl⟩ := hcs
      exact ⟨[], .inl ⟨rfl, rfl, rfl, rfl⟩⟩
    · simp [Value.cells] at hcs
      obtain ⟨rfl, rfl, rfl⟩ := hcs
      exact ⟨zs, .inr ⟨_, rfl, hl, hm, by simpa using hz, hcell, hwz⟩⟩
  obtain ⟨a1, rfl, rfl, rfl, w1⟩ := open_int Tryd.underlying3 (hval 1 3 v1 rfl rfl) h1
  obtain ⟨a2, rfl, rfl, rfl, w2⟩ := open_string Tryd.underlying9 (hval 2 9 v2 rfl rfl) h2
  clear hA0 hval0
  refine (walk a0 len0 cap0 z0 a1 a2 W w0 w1 w2 hL hsh).mono fun e W' ⟨he, bel⟩ => ?_
  subst he
  exact ⟨_, rfl, _, _, _, [], _, [], hW', trodAll_mk1 (shut_bool Tryd.underlying4 _), (trodAll_cons_mk (Below.trod laidOut (by kernel_rfl) (of_decide_eq_true (by kernel_rfl)) k0 bel lt0) (trodAll_cons_mk (shut_int Tryd.underlying3 w1) (trodAll_cons_mk (shut_string Tryd.underlying9 w2) trodAll_mk0))), rfl, bel.frame _, fun h => by cases h⟩

set_option maxRecDepth 100000 in
theorem laid_met (os : Os) : laidMet Tryd.prog Rows.textBackRow.laid ((World.doorLaid Tryd.prog 2000 os).forCall (fun _ _ => 0) ⟨#[], #[.slice none 0 0, .int .i64 0, .string ByteArray.empty], []⟩).memory :=
  laidMet_of_run' 8 (by kernel_rfl) (by kernel_rfl)
theorem reads (os : Os) {H : Type} (enc : TypeId × Value → H) : ∃ places, DataW.whole enc Tryd.prog ((World.doorLaid Tryd.prog 2000 os).forCall (fun _ _ => 0) ⟨#[], #[.slice none 0 0, .int .i64 0, .string ByteArray.empty], []⟩).memory Tryd.f7.params.toList Rows.textBackSpec.vars false (#[.slice none 0 0, .int .i64 0, .string ByteArray.empty] : Array Value).toList 8 = some ([.nil, .lit (.int .i64 0), .lit (.string [])], [], places) :=
  ⟨[], by kernel_rfl⟩
set_option maxRecDepth 100000 in
theorem lifted (os : Os) (started : os.Started) (H : Type) (enc : TypeId × Value → H) (F : Stop.Interp) :
    ReturnsInHanded {} Tryd.checked os 7 .any ((OpenSpec.ofChange Rows.textBackSpec).preRow enc Tryd.prog Tryd.f7 Rows.textBackRow.domain false Rows.textBackRow.laid) (((OpenSpec.ofChange Rows.textBackSpec).at F).post enc Tryd.prog Tryd.f7 false true false false) := by
  obtain ⟨places, hx⟩ := reads os enc
  refine returnsInHanded_of_row (C := Tryd.checked) (s := OpenSpec.ofChange Rows.textBackSpec) own started (by kernel_rfl) Tryd.func7
    (witness_row_at (enc := enc) (C := Tryd.checked) false (World.doorLaid Tryd.prog 2000 os) #[.slice none 0 0, .int .i64 0, .string ByteArray.empty] rfl (by kernel_rfl) (by kernel_rfl) (by kernel_rfl)
      (OpenSpec.preRow_of_cond 8 hx (by kernel_rfl) (fun k hk => by cases hk) (by kernel_rfl) (laid_met os))) ?_
  intro W base args ds gs before hval hW _ _ _ hL hsh _
  exact contract H enc W base args ds gs before hval hW hL hsh
theorem said : Rows.TextBackSaid :=
  OpenClaim.holds_of_cond 7 Tryd.f7 rfl rfl rfl rfl rfl rfl rfl ⟨rfl, rfl, rfl, rfl, rfl⟩ rfl rfl rfl rfl rfl (by kernel_rfl) Tryd.func7 (by kernel_rfl)
    (of_decide_eq_true (by kernel_rfl)) (by unfold Func.isWrapper; first | (rw [if_pos (by decide +kernel)]; kernel_rfl) | (rw [if_neg (by decide +kernel)]; exact ⟨rfl, rfl⟩))
    (fun os started H enc _ F => by rw [OpenClaim.pre_eq_preRow]; exact lifted os started H enc F)
theorem plain (f : FuncId) (fn : Func) (hf : Tryd.pinned.checked.prog.funcNamed "inquest/inquestlaw04.TextBack" = some f) (hfn : Tryd.pinned.checked.prog.funcs[f]? = some fn) :
    true = Tryd.pinned.checked.prog.looks [] ∧ ∀ (j : Nat) t, fn.params[j]? = some t → Tryd.pinned.checked.prog.wantsStandIn t = false := by
  obtain rfl : f = 7 := Option.some.inj ((show Tryd.prog.funcNamed "inquest/inquestlaw04.TextBack" = some 7 by kernel_rfl).symm.trans hf) |>.symm
  obtain rfl : fn = Tryd.f7 := (Option.some.inj (Tryd.func7.symm.trans hfn)).symm
  refine ⟨by kernel_rfl, fun j t ht => ?_⟩
  rw [Tryd.params7] at ht
  have hall : ([22, 3, 9].all fun u => !Tryd.prog.wantsStandIn u) = true := by kernel_rfl
  have hm : t ∈ [22, 3, 9] := by simpa using Array.mem_of_getElem? ht
  exact (show Tryd.prog.wantsStandIn t = false by simpa using List.all_eq_true.1 hall t hm)
/-- the tied card -/
theorem card : Rows.TextBackCardSaid :=
  Claim7.holds_tied_plain_at .later [] _ _ _ _ said (fun _ h => by cases h) (by kernel_rfl) (fun _ h => by cases h) textBack_row_tie rfl ⟨rfl, rfl⟩ (by kernel_rfl) rfl plain (by kernel_rfl)
end Go.Proofs.YtakploildkeofaaDoor.textBack
namespace Go.Proofs.YtakploildkeofaaDoor
theorem textBack_holds : Rows.TextBackCardSaid := textBack.card
#print axioms textBack_holds
end Go.Proofs.YtakploildkeofaaDoor
