/- For every text, byte and int the law TextJoins returns true (P4.3, P4.5): of texts of up to 300 bytes, the pieces joined by the byte are the text, none of them has the byte, and there are as many as the bound allows only if there are no more. The library's tables are as the program's text lays them (the card ties them). -/
import Derived.Test.YtakploildkeofaaDoorTDoor
import Derived.LaidMore
import Derived.Test.YtakploildkeofaaDoorDec
import Derived.Test.YtakploildkeofaaDoorSCut
import Derived.Test.YtakploildkeofaaDoorFields
import Derived.Test.YtakploildkeofaaDoorJoinMath
import Derived.WalkKit
import Derived.ShutString
import Derived.ChangeOld
import Derived.Below
namespace Go.Proofs.YtakploildkeofaaDoor.textJoins
open Go.ChangeShapes Go.WideShapes Go.ChangeAt Go.RowKit
open Go.ChangeMaps (open_string shut_string)
set_option linter.unusedVariables false



theorem byte_str (w : World) (y : Int) (hy : 0 ≤ y ∧ y ≤ 255) : (convert 22 9 (.slice (some ⟨w.heap.size, 0, none⟩) 1 1)).run Tryd.prog (w.alloc (.cells #[.int .u8 y] 5)) = .ok (.string (mkB [cb y])) (w.alloc (.cells #[.int .u8 y] 5)) := by
  have hb : Bts (w.alloc (.cells #[.int .u8 y] 5)) (some ⟨w.heap.size, 0, none⟩) 1 1 [y] := by
    refine ⟨rfl, Byt.cons hy Byt.nil, Nat.le_refl _, by decide, (fun h => by cases h), fun _ => ⟨w.heap.size, 0, rfl, by simp, fun i hi => ?_⟩⟩
    obtain rfl : i = 0 := by omega
    exact cell_one_new w (.int .u8 y) 5 0 (.int .u8 y) rfl
  exact hb.str

set_option maxRecDepth 100000 in
set_option maxHeartbeats 1000000 in
theorem walk (a0 : ByteArray) (a1 : Int) (a2 : Int) (w0 : a0.size ≤ maxLen) (w1 : (Lit.int .u8 a1).wf = true) (w2 : (Lit.int .i64 a2).wf = true) (w : World) (hL : laidMetH Tryd.prog Rows.textJoinsRow.laid w) (hsh : w.ShapedOpen Tryd.prog) :
    Calls Tryd.prog 8 #[.string a0, .int .u8 a1, .int .i64 a2] w fun e w' => e = .returned (.bool true) ∧ Below w.heap.size w w' := by
  clear hL hsh
  have hs1 : a0.size ≤ 9223372036854775807 := w0
  have hy : 0 ≤ a1 ∧ a1 ≤ 255 := by simp [Lit.wf] at w1; exact w1
  clear w0 w1 w2
  go_enter Tryd.func8, Tryd.ntmps8
  go_wp2_with fail
  refine (scut_any a0 300 _ hs1).mono ?_
  rintro e wz ⟨⟨s, rfl, hs⟩, hwz⟩
  obtain rfl : w = wz := hwz.symm
  clear hwz
  go_wp2_with fail
  go_loop [7, 8] (fun n i => ∃ k : Nat, k ≤ s.size ∧ i = .int .i64 k ∧ n = .int .i64 ((cnt (cb a1) s k : Int) + 1)) (fun _ i => s.size - (intOf i).toNat)
  case atStart => exact ⟨0, Nat.zero_le _, rfl, rfl⟩
  case round =>
    obtain ⟨k, hk, rfl, rfl⟩ := hrel
    have hle := cnt_le (cb a1) s k
    by_cases hlt : k < s.size
    · have hki : (k : Int) < (s.size : Int) := by omega
      have hse : ∀ h, (((s[k]'h).toNat : Nat) : Int) = sb s k := fun h => sb_eq s k h
      by_cases he : sb s k = a1
      · have HC : Hid (cnt (cb a1) s (k + 1) = cnt (cb a1) s k + 1) := cnt_hit hy hlt he
        have g1 : (sb s k == a1) = true := by simpa using he
        clear he
        generalize cnt (cb a1) s k = m at HC hle
        go_wp2_with fail
        go_round
        case rel => exact ⟨k + 1, by omega, by go_num, by rw [HC.out]; go_num⟩
        case measure => simp [intOf]; omega
      · have HC : Hid (cnt (cb a1) s (k + 1) = cnt (cb a1) s k) := cnt_miss hy hlt he
        have g1 : (sb s k == a1) = false := by simpa using he
        clear he
        generalize cnt (cb a1) s k = m at HC hle
        go_wp2_with fail
        go_round
        case rel => exact ⟨k + 1, by omega, by go_num, by rw [HC.out]⟩
        case measure => simp [intOf]; omega
    · have HK : Hid ((cnt (cb a1) s k : Int) + 1 = ((pcs (cb a1) s).length : Int)) := by
        show _ = _; rw [cnt_all, show k = s.size by omega]; omega
      have hki : ¬ (k : Int) < (s.size : Int) := by omega
      have hN : (pcs (cb a1) s).length ≤ 301 := by have h1 := cnt_all (cb a1) s; have h2 := cnt_le (cb a1) s s.size; omega
      have hN1 : 1 ≤ (pcs (cb a1) s).length := List.length_pos_iff.2 (pcs_ne _ _)
      rw [HK.out]
      clear hle HK
      go_wp2_with fail
      refine (fields_any s a1 a2 _ hs).mono ?_
      rintro e w1 ⟨v1, rfl, ho1, hb1⟩
      by_cases hmost : ((pcs (cb a1) s).length : Int) ≤ a2
      · have e1 : fOk (cb a1) s a2 = true := by unfold fOk; simpa using hmost
        have e2 : fL (cb a1) s a2 = pcs (cb a1) s := by unfold fL; rw [if_pos hmost]
        rw [e1]
        rw [e2] at ho1
        have g1 : decide (((pcs (cb a1) s).length : Int) ≤ a2) = true := by simpa using hmost
        have HALL : Hid (jk (cb a1) (pcs (cb a1) s) (pcs (cb a1) s).length = s) := jk_all (cb a1) s
        have HPC : Hid (∀ i, i < (pcs (cb a1) s).length → ((pcs (cb a1) s).getD i ⟨#[]⟩).size ≤ 300 ∧ cb a1 ∉ ((pcs (cb a1) s).getD i ⟨#[]⟩).data.toList) := fun i hi => by
          obtain ⟨h1, h2⟩ := pcs_piece (cb a1) s i hi; exact ⟨by omega, h2⟩
        clear e1 e2 hmost
        generalize pcs (cb a1) s = L at ho1 g1 HALL HPC hN hN1
        have HSZ : Hid (∀ i, i ≤ L.length → (jk (cb a1) L i).size ≤ 301 * i) := jk_size (cb a1) L (fun i hi => (HPC.out i hi).1)
        generalize hn : L.length = n at ho1 g1 HALL HPC hN hN1 HSZ
        have HN : Hid (L.length = n) := hn
        clear hn
        obtain ⟨a3, c3, rfl, t1⟩ := Txt.of_owns ho1
        have g2 : ((n : Int) != (n : Int)) = false := by simp
        clear ho1
        obtain ⟨b3, rfl, _, _⟩ := t1.spot (by omega)
        go_wp2_with fail
        go_loopw [11, 12] (fun vj x wr => ∃ i : Nat, i ≤ n ∧ x = .int .i64 i ∧ vj = .string (jk (cb a1) L i) ∧ Txt wr (some ⟨b3, 0, none⟩) n L ∧ Below w.heap.size w wr) (fun _ x _ => n - (intOf x).toNat)
        case atStart => exact ⟨0, Nat.zero_le _, rfl, rfl, t1, hb1⟩
        case round =>
          obtain ⟨i, hi, rfl, rfl, ht, hb⟩ := hrel
          by_cases hil : i < n
          · have hii : (i : Int) < (n : Int) := by omega
            obtain ⟨b4, hb4, _, hcell⟩ := ht.spot (by omega)
            cases hb4
            have hc := hcell i hil
            have hp := HPC.out i hil
            have hz := HSZ.out i hi
            clear hcell
            by_cases hi0 : 0 < i
            · have hi0i : (0 : Int) < (i : Int) := by omega
              have HJ : Hid (jk (cb a1) L (i + 1) = jk (cb a1) L i ++ mkB [cb a1] ++ L.getD i ⟨#[]⟩) := jk_more hi0
              generalize L.getD i ⟨#[]⟩ = p at hc hp HJ
              generalize jk (cb a1) L i = J at HJ hz
              have HNO : Hid (∀ j, j < p.size → (sb p j == a1) = false) := fun j hj => piece_not hy hp.2 j hj
              have hpz := hp.1
              clear hp
              have hrun := byte_str wr a1 hy
              have hb5 : Below w.heap.size w (wr.alloc (.cells #[.int .u8 a1] 5)) := hb.alloc hb.size _
              have hal : Below wr.heap.size wr (wr.alloc (.cells #[.int .u8 a1] 5)) := (Below.refl _ _).alloc (Nat.le_refl _) _
              have ht5 := ht.below hal
              have hc5 : (wr.alloc (.cells #[.int .u8 a1] 5)).cell? ⟨b3, i, none⟩ = some (.string p) := by
                obtain ⟨b5, hb5', hlt5, _⟩ := ht.spot (by omega)
                cases hb5'
                rw [hal.cell hlt5]; exact hc
              have hm1 : (mkB [cb a1]).size = 1 := rfl
              generalize hMB : mkB [cb a1] = MB at HJ hrun hm1
              clear hMB hal ht hc
              go_wp2_with fail
              generalize wr.alloc (.cells #[.int .u8 a1] 5) = w5 at hb5 ht5 hc5 ⊢
              clear hrun hb
              go_loop [13] (fun x => ∃ j : Nat, j ≤ p.size ∧ x = .int .i64 j) (fun x => p.size - (intOf x).toNat)
              case atStart => exact ⟨0, Nat.zero_le _, rfl⟩
              case round =>
                obtain ⟨j, hj, rfl⟩ := hrel
                by_cases hjl : j < p.size
                · have hji : (j : Int) < (p.size : Int) := by omega
                  have hse : ∀ h, (((p[j]'h).toNat : Nat) : Int) = sb p j := fun h => sb_eq p j h
                  have g1 := HNO.out j hjl
                  go_wp2_with fail
                  go_round
                  case rel => exact ⟨j + 1, by omega, by go_num⟩
                  case measure => simp [intOf]; omega
                · have hji : ¬ (j : Int) < (p.size : Int) := by omega
                  go_wp2_with fail
                  go_roundw
                  case rel => exact ⟨i + 1, by omega, by go_num, by rw [HJ.out], ht5, hb5⟩
                  case measure => simp [intOf]; omega
            · have hi0i : ¬ (0 : Int) < (i : Int) := by omega
              have HJ : Hid (jk (cb a1) L (i + 1) = jk (cb a1) L i ++ L.getD i ⟨#[]⟩) := by show _ = _; rw [jk, if_neg hi0]
              generalize L.getD i ⟨#[]⟩ = p at hc hp HJ
              generalize jk (cb a1) L i = J at HJ hz
              have HNO : Hid (∀ j, j < p.size → (sb p j == a1) = false) := fun j hj => piece_not hy hp.2 j hj
              have hpz := hp.1
              have ht5 := ht
              have hb5 := hb
              clear hp ht hb
              go_wp2_with fail
              go_loop [13] (fun x => ∃ j : Nat, j ≤ p.size ∧ x = .int .i64 j) (fun x => p.size - (intOf x).toNat)
              case atStart => exact ⟨0, Nat.zero_le _, rfl⟩
              case round =>
                obtain ⟨j, hj, rfl⟩ := hrel
                by_cases hjl : j < p.size
                · have hji : (j : Int) < (p.size : Int) := by omega
                  have hse : ∀ h, (((p[j]'h).toNat : Nat) : Int) = sb p j := fun h => sb_eq p j h
                  have g1 := HNO.out j hjl
                  go_wp2_with fail
                  go_round
                  case rel => exact ⟨j + 1, by omega, by go_num⟩
                  case measure => simp [intOf]; omega
                · have hji : ¬ (j : Int) < (p.size : Int) := by omega
                  go_wp2_with fail
                  go_roundw
                  case rel => exact ⟨i + 1, by omega, by go_num, by rw [HJ.out], ht5, hb5⟩
                  case measure => simp [intOf]; omega
          · have hii : ¬ (i : Int) < (n : Int) := by omega
            have hJ : jk (cb a1) L i = s := by rw [show i = n by omega]; exact HALL.out
            rw [hJ]
            have hss : (s.toList == s.toList) = true := by simp
            clear hJ
            go_wp2_with fail
            refine (lives_any _).mono ?_
            rintro e w' ⟨rfl, rfl⟩
            go_wp2
            go_ret
            exact ⟨rfl, hb⟩
      · have e1 : fOk (cb a1) s a2 = false := by unfold fOk; simpa using hmost
        have e2 : fL (cb a1) s a2 = [] := by unfold fL; rw [if_neg hmost]
        rw [e1]
        rw [e2] at ho1
        have g1 : decide (((pcs (cb a1) s).length : Int) ≤ a2) = false := by simpa using hmost
        simp only [List.length_nil] at ho1
        obtain ⟨a3, c3, rfl, t1⟩ := Txt.of_owns ho1
        clear e1 e2 ho1 t1 hmost
        generalize (pcs (cb a1) s).length = n at g1 hN hN1
        go_wp2_with fail
        go_loop [12] (fun x => x = .int .i64 0) (fun _ => 0)
        case atStart => exact rfl
        case round =>
          subst hrel
          go_wp2_with fail
          refine (lives_any _).mono ?_
          rintro e w' ⟨rfl, rfl⟩
          go_wp2
          go_ret
          exact ⟨rfl, hb1⟩

/-- what the walk gives, for every argument and every world that holds the table -/
theorem contract (H : Type) (enc : TypeId × Value → H) (W : World) (base : Nat) (args : Array Value) (ds gs : List (DataW H)) (before : List MemPlace)
    (hval0 : ∀ (j : Nat) t v, Tryd.f8.params[j]? = some t → args[j]? = some v → Value.okWide Tryd.prog W .any base t v)
    (hW : DataW.Whole enc Tryd.prog Tryd.f8.params.toList Rows.textJoinsSpec.vars false W args.toList ds gs before) (hL : laidMetH Tryd.prog Rows.textJoinsRow.laid W) (hsh : W.ShapedOpen Tryd.prog) :
    Calls Tryd.prog 8 args W fun e W' => ∃ v, e = .returned v ∧ Rows.textJoinsSpec.post enc Tryd.prog Tryd.f8 false true false false W args v W' := by
  have hval : ∀ (j : Nat) t v, Tryd.f8.params[j]? = some t → args[j]? = some v → Value.okWide Tryd.prog W .any base t v := hval0
  have hW' := hW
  obtain ⟨p, q, hA0, hV, rfl, hfz, hnd⟩ := hW
  have hA : DataW.TrodAll enc Tryd.prog W 0 (fun _ => true) true Tryd.f8.params.toList args.toList ds p := hA0
  rw [Tryd.params8] at hA hval
  obtain ⟨v0, vs0, d0, ds0, p0, q0, hargs, rfl, rfl, h0, r0⟩ := trodAll_cons hA
  obtain ⟨v1, vs1, d1, ds1, p1, q1, rfl, rfl, rfl, h1, r1⟩ := trodAll_cons r0
  obtain ⟨v2, vs2, d2, ds2, p2, q2, rfl, rfl, rfl, h2, r2⟩ := trodAll_cons r1
  obtain ⟨rfl, rfl, rfl⟩ := trodAll_nil r2
  obtain rfl : args = #[v0, v1, v2] := by cases args; simp_all
  obtain ⟨rfl, rfl⟩ := trodVars_none hV
  obtain ⟨a0, rfl, rfl, rfl, w0⟩ := open_string Tryd.underlying9 (hval 0 9 v0 rfl rfl) h0
  obtain ⟨a1, rfl, rfl, rfl, w1⟩ := open_int Tryd.underlying5 (hval 1 5 v1 rfl rfl) h1
  obtain ⟨a2, rfl, rfl, rfl, w2⟩ := open_int Tryd.underlying3 (hval 2 3 v2 rfl rfl) h2
  clear hA0 hval0
  refine (walk a0 a1 a2 w0 w1 w2 W hL hsh).mono fun e W' ⟨he, bel⟩ => ?_
  subst he
  exact ⟨_, rfl, _, _, _, [], _, [], hW', trodAll_mk1 (shut_bool Tryd.underlying4 _), (trodAll_cons_mk (shut_string Tryd.underlying9 w0) (trodAll_cons_mk (shut_int Tryd.underlying5 w1) (trodAll_cons_mk (shut_int Tryd.underlying3 w2) trodAll_mk0))), rfl, bel.frame _, fun h => by cases h⟩

set_option maxRecDepth 100000 in
theorem laid_met (os : Os) : laidMet Tryd.prog Rows.textJoinsRow.laid ((World.doorLaid Tryd.prog 2000 os).forCall (fun _ _ => 0) ⟨#[], #[.string ByteArray.empty, .int .u8 0, .int .i64 0], []⟩).memory :=
  laidMet_of_run' 8 (by kernel_rfl) (by kernel_rfl)
theorem reads (os : Os) {H : Type} (enc : TypeId × Value → H) : ∃ places, DataW.whole enc Tryd.prog ((World.doorLaid Tryd.prog 2000 os).forCall (fun _ _ => 0) ⟨#[], #[.string ByteArray.empty, .int .u8 0, .int .i64 0], []⟩).memory Tryd.f8.params.toList Rows.textJoinsSpec.vars false (#[.string ByteArray.empty, .int .u8 0, .int .i64 0] : Array Value).toList 8 = some ([.lit (.string []), .lit (.int .u8 0), .lit (.int .i64 0)], [], places) :=
  ⟨[], by kernel_rfl⟩
set_option maxRecDepth 100000 in
theorem lifted (os : Os) (started : os.Started) (H : Type) (enc : TypeId × Value → H) (F : Stop.Interp) :
    ReturnsInHanded {} Tryd.checked os 8 .any ((OpenSpec.ofChange Rows.textJoinsSpec).preRow enc Tryd.prog Tryd.f8 Rows.textJoinsRow.domain false Rows.textJoinsRow.laid) (((OpenSpec.ofChange Rows.textJoinsSpec).at F).post enc Tryd.prog Tryd.f8 false true false false) := by
  obtain ⟨places, hx⟩ := reads os enc
  refine returnsInHanded_of_row (C := Tryd.checked) (s := OpenSpec.ofChange Rows.textJoinsSpec) own started (by kernel_rfl) Tryd.func8
    (witness_row_at (enc := enc) (C := Tryd.checked) false (World.doorLaid Tryd.prog 2000 os) #[.string ByteArray.empty, .int .u8 0, .int .i64 0] rfl (by kernel_rfl) (by kernel_rfl) (by kernel_rfl)
      (OpenSpec.preRow_of_cond 8 hx (by kernel_rfl) (fun k hk => by cases hk) (by kernel_rfl) (laid_met os))) ?_
  intro W base args ds gs before hval hW _ _ _ hL hsh _
  exact contract H enc W base args ds gs before hval hW hL hsh
theorem said : Rows.TextJoinsSaid :=
  OpenClaim.holds_of_cond 8 Tryd.f8 rfl rfl rfl rfl rfl rfl rfl ⟨rfl, rfl, rfl, rfl, rfl⟩ rfl rfl rfl rfl rfl (by kernel_rfl) Tryd.func8 (by kernel_rfl)
    (of_decide_eq_true (by kernel_rfl)) (by unfold Func.isWrapper; first | (rw [if_pos (by decide +kernel)]; kernel_rfl) | (rw [if_neg (by decide +kernel)]; exact ⟨rfl, rfl⟩))
    (fun os started H enc _ F => by rw [OpenClaim.pre_eq_preRow]; exact lifted os started H enc F)
theorem plain (f : FuncId) (fn : Func) (hf : Tryd.pinned.checked.prog.funcNamed "inquest/inquestlaw04.TextJoins" = some f) (hfn : Tryd.pinned.checked.prog.funcs[f]? = some fn) :
    true = Tryd.pinned.checked.prog.looks [] ∧ ∀ (j : Nat) t, fn.params[j]? = some t → Tryd.pinned.checked.prog.wantsStandIn t = false := by
  obtain rfl : f = 8 := Option.some.inj ((show Tryd.prog.funcNamed "inquest/inquestlaw04.TextJoins" = some 8 by kernel_rfl).symm.trans hf) |>.symm
  obtain rfl : fn = Tryd.f8 := (Option.some.inj (Tryd.func8.symm.trans hfn)).symm
  refine ⟨by kernel_rfl, fun j t ht => ?_⟩
  rw [Tryd.params8] at ht
  have hall : ([9, 5, 3].all fun u => !Tryd.prog.wantsStandIn u) = true := by kernel_rfl
  have hm : t ∈ [9, 5, 3] := by simpa using Array.mem_of_getElem? ht
  exact (show Tryd.prog.wantsStandIn t = false by simpa using List.all_eq_true.1 hall t hm)
/-- the tied card -/
theorem card : Rows.TextJoinsCardSaid :=
  Claim7.holds_tied_plain_at .later [] _ _ _ _ said (fun _ h => by cases h) (by kernel_rfl) (fun _ h => by cases h) textJoins_row_tie rfl ⟨rfl, rfl⟩ (by kernel_rfl) rfl plain (by kernel_rfl)
end Go.Proofs.YtakploildkeofaaDoor.textJoins
namespace Go.Proofs.YtakploildkeofaaDoor
theorem textJoins_holds : Rows.TextJoinsCardSaid := textJoins.card
#print axioms textJoins_holds
end Go.Proofs.YtakploildkeofaaDoor
