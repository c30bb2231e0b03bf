/- For every slice of bytes and every int the law ShaJoined returns true and the slice reads as it did (P2.4): a text of up to 3000 bytes, added in two pieces, cut anywhere, has the sum of the text. The package's table is as the program's text lays it (the card ties it). -/
import Derived.Test.YtegcoilkdnmhoabDoorDoor
import Derived.Test.YtegcoilkdnmhoabDoorShaSum
import Derived.Test.YtegcoilkdnmhoabDoorNew
import Derived.Test.YtegcoilkdnmhoabDoorCut
import Derived.Test.YtegcoilkdnmhoabDoorLeast
import Derived.Test.YtegcoilkdnmhoabDoorEql
import Derived.WalkKit
import Derived.ShutString
import Derived.ChangeOld
import Derived.Below
namespace Go.Proofs.YtegcoilkdnmhoabDoor.shaJoined
open Go.ChangeShapes Go.WideShapes Go.ChangeAt Go.RowKit
open Go.ChangeMaps (open_string shut_string)
set_option linter.unusedVariables false

theorem laidOut : laidOutB Tryd.prog = true := by kernel_rfl

/-- WHAT THE WALK IS TOLD OF A SLICE OF INTEGERS THAT CAME IN: it is nil; or it leads to a row of 'cap' cells, the numbers 'zs' (the first 'len' are its elements, the rest its spare room), each fitting its kind. -/
def IsRow (k : IntKind) (w : World) (a : Option Addr) (len cap : Nat) (zs : List Int) : Prop :=
  (a = none ∧ len = 0 ∧ cap = 0 ∧ zs = []) ∨
  ∃ x, a = some x ∧ len ≤ cap ∧ cap ≤ maxLen ∧ zs.length = cap ∧ (∀ i, i < zs.length → w.cell? (x.add i) = some (.int k (zs.getD i 0))) ∧ ∀ n ∈ zs, (Lit.int k n).wf = true


theorem bts_head {w : World} {a : Option Addr} {len cap n : Nat} {l : List Int} (h : Bts w a len cap l) (hn : n ≤ len) : Bts w a n cap (l.take n) := by
  have hl := h.len_eq
  have hc := h.le_cap
  refine ⟨by rw [List.length_take]; omega, h.byt.take n, by omega, h.cap_le, h.nil, fun hp => ?_⟩
  obtain ⟨b, o, e, hlt, hcl⟩ := h.spot (by omega)
  refine ⟨b, o, e, hlt, fun i hi => ?_⟩
  rw [hcl i (by omega)]
  simp only [List.getD_eq_getElem?_getD, List.getElem?_take, if_pos hi]
theorem bts_map {w : World} {a : Option Addr} {len cap n : Nat} {l : List Int} (h : Bts w a len cap l) (hn : n ≤ len) : Bts w (Option.map (fun x => x.add n) a) (len - n) (cap - n) (l.drop n) := by
  have hl := h.len_eq
  have hc := h.le_cap
  have hm := h.cap_le
  refine ⟨by rw [List.length_drop]; omega, fun c hc' => h.byt c (List.mem_of_mem_drop hc'), by omega, by omega, fun hh => ?_, fun hp => ?_⟩
  · have := h.nil (by simpa using hh)
    omega
  · obtain ⟨b, o, e, hlt, hcl⟩ := h.spot (by omega)
    subst e
    refine ⟨b, o + n, by rw [Option.map_some, Addr.add_lit], hlt, fun i hi => ?_⟩
    rw [Nat.add_assoc, hcl (n + i) (by omega)]
    simp only [List.getD_eq_getElem?_getD, List.getElem?_drop]
theorem map_block {a : Option Addr} {n g : Nat} (h : ∀ p, a = some p → p.block ≠ g) : ∀ p, Option.map (fun x => x.add n) a = some p → p.block ≠ g := by
  intro p hp
  obtain ⟨q, hq, rfl⟩ := Option.map_eq_some_iff.1 hp
  have hb : (q.add n).block = q.block := by unfold Addr.add; split <;> rfl
  rw [hb]; exact h q hq

set_option maxRecDepth 100000 in
set_option maxHeartbeats 1000000 in
theorem walk (a0 : Option Addr) (len0 cap0 : Nat) (z0 : List Int) (a1 : Int) (w : World) (w0 : IsRow .u8 w a0 len0 cap0 z0) (w1 : (Lit.int .i64 a1).wf = true) (htab : Tab w) :
    Calls Tryd.prog 3 #[.slice a0 len0 cap0, .int .i64 a1] w fun e w' => e = .returned (.bool true) ∧ Below w.heap.size w w' := by
  have hrow : Bts w a0 len0 cap0 (z0.take len0) := Bts.of_row w0
  generalize z0.take len0 = l at hrow
  clear w0
  go_enter Tryd.func3, Tryd.ntmps3
  go_wp2_with fail
  refine (cut_any a0 len0 cap0 3000 l _ hrow (by decide)).mono ?_
  rintro e w' ⟨⟨len, rfl, hl⟩, rfl⟩
  have hlen : len ≤ 3000 := by have := hl.len_eq; rw [List.length_take] at this; omega
  generalize l.take 3000 = m at hl
  clear hrow
  go_wp2_with fail
  obtain ⟨k, hk, hkl⟩ : ∃ k : Nat, leastV a1 0 (len : Int) = (k : Int) ∧ k ≤ len := by
    refine ⟨(leastV a1 0 (len : Int)).toNat, ?_, ?_⟩ <;> unfold leastV <;> split <;> (try split) <;> omega
  refine (least_any _ _ _ _).mono ?_
  rintro e w' ⟨rfl, rfl⟩
  rw [hk]
  clear hk
  go_wp2_with fail
  refine (new_any _).mono ?_
  rintro e w1 ⟨g, rfl, hash1, hg1, hb1⟩
  have hl1 := hl.below hb1
  have ht1 := htab.below hb1
  have hpos := htab.pos
  have hap : 0 < len → ∀ p, a0 = some p → p.block ≠ g := by
    intro hz p hp
    obtain ⟨sb, so, e, hlt, _⟩ := hl.spot hz
    rw [e] at hp; cases hp
    show sb ≠ g; omega
  have hHd := bts_head hl1 hkl
  have hln := hl.len_eq
  have k0 : (0 : Int) ≤ (k : Int) := by omega
  have k1 : (k : Int) ≤ (len : Int) := by omega
  have hlc := hl.le_cap
  have k2 : (k : Int) ≤ (cap0 : Int) := by omega
  go_wp2_with fail
  refine (add_any g [] (m.take k) a0 k cap0 _ hash1 hHd (fun hz => hap (by omega)) (by omega) ht1 (by show 0 + k ≤ _; omega)).mono ?_
  rintro e w2 ⟨rfl, hash2, hbut2⟩
  rw [List.nil_append] at hash2
  have hl2 := hl1.but hbut2 hap
  have hlow2 := hb1.trans (hbut2.low (B := w.heap.size) hg1 hb1.size)
  have ht2 := htab.below hlow2
  have hln2 : (m.take k).length = k := by rw [List.length_take]; omega
  clear hl1 ht1 hash1 hHd hbut2 hb1
  go_wp2_with fail
  refine (hsum_any g (m.take k) _ hash2 ht2 (by omega)).mono ?_
  rintro e w3 ⟨rfl, hb3⟩
  have hl3 := hl2.below hb3
  have hash3 := hash2.of_block (hb3.block g hash2.lt)
  have hlow3 := hlow2.trans (hb3.mono hlow2.size)
  have ht3 := htab.below hlow3
  generalize (bv (sumL (m.take k))).toArray = D1
  clear hl2 ht2 hash2 hlow2 hb3
  have hTm := bts_map hl3 hkl
  have hTe : Hid (cap0 = k → Bts w3 a0 0 0 (m.drop k)) := fun h => Bts.none (List.drop_eq_nil_of_le (by omega))
  have hBl := fun hz => map_block (n := k) (hap hz)
  have hbt : m.take k ++ m.drop k = m := List.take_append_drop k m
  have HM : Hid (m.take k ++ m.drop k = m) := hbt
  clear hbt
  by_cases hck : cap0 = k
  · subst hck
    have hTe' := hTe.out rfl
    clear hTe hTm hBl k2
    go_wp2_with fail
    refine (add_any g (m.take cap0) (m.drop cap0) a0 0 0 _ hash3 hTe' (fun hz => absurd hz (by omega)) (by omega) ht3 (by omega)).mono ?_
    rintro e w4 ⟨rfl, hash4, hbut4⟩
    rw [HM.out] at hash4
    have hl4 := hl3.but hbut4 hap
    have hlow4 := hlow3.trans (hbut4.low (B := w.heap.size) hg1 hlow3.size)
    have ht4 := htab.below hlow4
    go_wp2_with fail
    refine (hsum_any g m _ hash4 ht4 (by omega)).mono ?_
    rintro e w5 ⟨rfl, hb5⟩
    have hl5 := hl4.below hb5
    have hash5 := hash4.of_block (hb5.block g hash4.lt)
    have hlow5 := hlow4.trans (hb5.mono hlow4.size)
    have ht5 := htab.below hlow5
    go_wp2_with fail
    refine (sum_any _ _ _ m _ hl5 ht5 (by omega)).mono ?_
    rintro e w6 ⟨rfl, hb6⟩
    have hash6 := hash5.of_block (hb6.block g hash5.lt)
    have hlow6 := hlow5.trans (hb6.mono hlow5.size)
    have ht6 := htab.below hlow6
    have heq := dig_eq (sumL m) (sumL_length m)
    generalize (bv (sumL m)).toArray = D at heq ⊢
    clear hl3 hl4 hl5 hash3 hash4 hash5 hlow3 hlow4 hlow5 ht3 ht4 ht5 hbut4 hb5 hb6 hap HM
    go_wp2_with fail
    refine (count_any g m _ hash6).mono ?_
    rintro e w' ⟨rfl, rfl⟩
    have hcn : (m.length : Int) = (len : Int) := by omega
    rw [hcn]
    go_wp2_with fail
    refine (lives_any _ ht6).mono ?_
    rintro e w7 ⟨rfl, hb7⟩
    go_wp2
    go_ret
    exact ⟨rfl, hlow6.trans (hb7.mono hlow6.size)⟩
  · clear hTe
    go_wp2_with fail
    refine (add_any g (m.take k) (m.drop k) (Option.map (fun x => x.add k) a0) (len - k) (cap0 - k) _ hash3 hTm (fun hz => hBl (by omega)) (by omega) ht3 (by omega)).mono ?_
    rintro e w4 ⟨rfl, hash4, hbut4⟩
    rw [HM.out] at hash4
    have hl4 := hl3.but hbut4 hap
    have hlow4 := hlow3.trans (hbut4.low (B := w.heap.size) hg1 hlow3.size)
    have ht4 := htab.below hlow4
    go_wp2_with fail
    refine (hsum_any g m _ hash4 ht4 (by omega)).mono ?_
    rintro e w5 ⟨rfl, hb5⟩
    have hl5 := hl4.below hb5
    have hash5 := hash4.of_block (hb5.block g hash4.lt)
    have hlow5 := hlow4.trans (hb5.mono hlow4.size)
    have ht5 := htab.below hlow5
    go_wp2_with fail
    refine (sum_any _ _ _ m _ hl5 ht5 (by omega)).mono ?_
    rintro e w6 ⟨rfl, hb6⟩
    have hash6 := hash5.of_block (hb6.block g hash5.lt)
    have hlow6 := hlow5.trans (hb6.mono hlow5.size)
    have ht6 := htab.below hlow6
    have heq := dig_eq (sumL m) (sumL_length m)
    generalize (bv (sumL m)).toArray = D at heq ⊢
    clear hl3 hl4 hl5 hash3 hash4 hash5 hlow3 hlow4 hlow5 ht3 ht4 ht5 hbut4 hb5 hb6 hap HM
    go_wp2_with fail
    refine (count_any g m _ hash6).mono ?_
    rintro e w' ⟨rfl, rfl⟩
    have hcn : (m.length : Int) = (len : Int) := by omega
    rw [hcn]
    go_wp2_with fail
    refine (lives_any _ ht6).mono ?_
    rintro e w7 ⟨rfl, hb7⟩
    go_wp2
    go_ret
    exact ⟨rfl, hlow6.trans (hb7.mono hlow6.size)⟩

/-- what the walk gives, for every argument and every world that holds the table -/
theorem contract (H : Type) (enc : TypeId × Value → H) (W : World) (base : Nat) (args : Array Value) (ds gs : List (DataW H)) (before : List MemPlace)
    (hval0 : ∀ (j : Nat) t v, Tryd.f3.params[j]? = some t → args[j]? = some v → Value.okWide Tryd.prog W .any base t v)
    (hW : DataW.Whole enc Tryd.prog Tryd.f3.params.toList Rows.shaJoinedSpec.vars false W args.toList ds gs before) (hL : laidMetH Tryd.prog Rows.shaJoinedRow.laid W) :
    Calls Tryd.prog 3 args W fun e W' => ∃ v, e = .returned v ∧ Rows.shaJoinedSpec.post enc Tryd.prog Tryd.f3 false true false false W args v W' := by
  have htab := tab_of_laid hL
  have hval : ∀ (j : Nat) t v, Tryd.f3.params[j]? = some t → args[j]? = some v → Value.okWide Tryd.prog W .any base t v := hval0
  have hW' := hW
  obtain ⟨p, q, hA0, hV, rfl, hfz, hnd⟩ := hW
  have hA : DataW.TrodAll enc Tryd.prog W 0 (fun _ => true) true Tryd.f3.params.toList args.toList ds p := hA0
  rw [Tryd.params3] at hA hval
  obtain ⟨v0, vs0, d0, ds0, p0, q0, hargs, rfl, rfl, h0, r0⟩ := trodAll_cons hA
  obtain ⟨v1, vs1, d1, ds1, p1, q1, rfl, rfl, rfl, h1, r1⟩ := trodAll_cons r0
  obtain ⟨rfl, rfl, rfl⟩ := trodAll_nil r1
  obtain rfl : args = #[v0, v1] := by cases args; simp_all
  obtain ⟨rfl, rfl⟩ := trodVars_none hV
  obtain ⟨a0, len0, cap0, rfl⟩ := okWide_slice Tryd.underlying22 (hval 0 22 v0 rfl rfl)
  have k0 := h0
  have lt0 : ∀ x ∈ p0, x.block < W.heap.size := by obtain ⟨m, hm⟩ := k0; exact DataW.trod_lt m _ _ _ hm
  obtain ⟨z0, w0⟩ : ∃ zs, IsRow .u8 W a0 len0 cap0 zs := by
    obtain ⟨fuel, hf⟩ := h0
    rcases open_ints Tryd.underlying22 Tryd.underlying5 (by kernel_rfl) hf with ⟨hcs, _⟩ | ⟨x, l, c, zs, hcs, _, hl, hm, hz, _, hcell, hwz⟩
    · simp [Value.cells] at hcs
      obtain ⟨rfl, rfl, rfl⟩ := hcs
      exact ⟨[], .inl ⟨rfl, rfl, rfl, rfl⟩⟩
    · simp [Value.cells] at hcs
      obtain ⟨rfl, rfl, rfl⟩ := hcs
      exact ⟨zs, .inr ⟨_, rfl, hl, hm, by simpa using hz, hcell, hwz⟩⟩
  obtain ⟨a1, rfl, rfl, rfl, w1⟩ := open_int Tryd.underlying3 (hval 1 3 v1 rfl rfl) h1
  clear hA0 hval0
  refine (walk a0 len0 cap0 z0 a1 W w0 w1 htab).mono fun e W' ⟨he, bel⟩ => ?_
  subst he
  exact ⟨_, rfl, _, _, _, [], _, [], hW', trodAll_mk1 (shut_bool Tryd.underlying4 _), (trodAll_cons_mk (Below.trod laidOut (by kernel_rfl) (of_decide_eq_true (by kernel_rfl)) k0 bel lt0) (trodAll_cons_mk (shut_int Tryd.underlying3 w1) trodAll_mk0)), rfl, bel.frame _, fun h => by cases h⟩

set_option maxRecDepth 100000 in
theorem laid_met (os : Os) : laidMet Tryd.prog Rows.shaJoinedRow.laid (({ World.holding Tryd.prog os ⟨#[], #[], []⟩ with heap := (World.holding Tryd.prog os ⟨#[], #[], []⟩).heap.setIfInBounds 0 (.cells (uv keyL).toArray 50) } : World).forCall (fun _ _ => 0) ⟨#[], #[.slice none 0 0, .int .i64 0], []⟩).memory :=
  laidMet_of_run' 8 (by kernel_rfl) (by kernel_rfl)
theorem reads (os : Os) {H : Type} (enc : TypeId × Value → H) : ∃ places, DataW.whole enc Tryd.prog (({ World.holding Tryd.prog os ⟨#[], #[], []⟩ with heap := (World.holding Tryd.prog os ⟨#[], #[], []⟩).heap.setIfInBounds 0 (.cells (uv keyL).toArray 50) } : World).forCall (fun _ _ => 0) ⟨#[], #[.slice none 0 0, .int .i64 0], []⟩).memory Tryd.f3.params.toList Rows.shaJoinedSpec.vars false (#[.slice none 0 0, .int .i64 0] : Array Value).toList 8 = some ([.nil, .lit (.int .i64 0)], [], places) :=
  ⟨[], by kernel_rfl⟩
set_option maxRecDepth 100000 in
theorem lifted (os : Os) (started : os.Started) (H : Type) (enc : TypeId × Value → H) (F : Stop.Interp) :
    ReturnsInHanded {} Tryd.checked os 3 .any ((OpenSpec.ofChange Rows.shaJoinedSpec).preRow enc Tryd.prog Tryd.f3 Rows.shaJoinedRow.domain false Rows.shaJoinedRow.laid) (((OpenSpec.ofChange Rows.shaJoinedSpec).at F).post enc Tryd.prog Tryd.f3 false true false false) := by
  obtain ⟨places, hx⟩ := reads os enc
  refine returnsInHanded_of_row (C := Tryd.checked) (s := OpenSpec.ofChange Rows.shaJoinedSpec) own started (by kernel_rfl) Tryd.func3
    (witness_row_at (enc := enc) (C := Tryd.checked) false ({ World.holding Tryd.prog os ⟨#[], #[], []⟩ with heap := (World.holding Tryd.prog os ⟨#[], #[], []⟩).heap.setIfInBounds 0 (.cells (uv keyL).toArray 50) } : World) #[.slice none 0 0, .int .i64 0] rfl (by kernel_rfl) (by kernel_rfl) (by kernel_rfl)
      (OpenSpec.preRow_of_cond 8 hx (by kernel_rfl) (fun k hk => by cases hk) (by kernel_rfl) (laid_met os))) ?_
  intro W base args ds gs before hval hW _ _ _ hL _ _
  exact contract H enc W base args ds gs before hval hW hL
theorem said : Rows.ShaJoinedSaid :=
  OpenClaim.holds_of_cond 3 Tryd.f3 rfl rfl rfl rfl rfl rfl rfl ⟨rfl, rfl, rfl, rfl, rfl⟩ rfl rfl rfl rfl rfl (by kernel_rfl) Tryd.func3 (by kernel_rfl)
    (of_decide_eq_true (by kernel_rfl)) (by unfold Func.isWrapper; first | (rw [if_pos (by decide +kernel)]; kernel_rfl) | (rw [if_neg (by decide +kernel)]; exact ⟨rfl, rfl⟩))
    (fun os started H enc _ F => by rw [OpenClaim.pre_eq_preRow]; exact lifted os started H enc F)
theorem plain (f : FuncId) (fn : Func) (hf : Tryd.pinned.checked.prog.funcNamed "inquest/inquestlaw02.ShaJoined" = some f) (hfn : Tryd.pinned.checked.prog.funcs[f]? = some fn) :
    false = Tryd.pinned.checked.prog.looks [] ∧ ∀ (j : Nat) t, fn.params[j]? = some t → Tryd.pinned.checked.prog.wantsStandIn t = false := by
  obtain rfl : f = 3 := Option.some.inj ((show Tryd.prog.funcNamed "inquest/inquestlaw02.ShaJoined" = some 3 by kernel_rfl).symm.trans hf) |>.symm
  obtain rfl : fn = Tryd.f3 := (Option.some.inj (Tryd.func3.symm.trans hfn)).symm
  refine ⟨by kernel_rfl, fun j t ht => ?_⟩
  rw [Tryd.params3] at ht
  have hall : ([22, 3].all fun u => !Tryd.prog.wantsStandIn u) = true := by kernel_rfl
  have hm : t ∈ [22, 3] := by simpa using Array.mem_of_getElem? ht
  exact (show Tryd.prog.wantsStandIn t = false by simpa using List.all_eq_true.1 hall t hm)
/-- the tied card -/
theorem card : Rows.ShaJoinedCardSaid :=
  Claim7.holds_tied_plain_at .later [] _ _ _ _ said (fun _ h => by cases h) (by kernel_rfl) (fun _ h => by cases h) shaJoined_row_tie rfl ⟨rfl, rfl⟩ (by kernel_rfl) rfl plain (by kernel_rfl)
end Go.Proofs.YtegcoilkdnmhoabDoor.shaJoined
namespace Go.Proofs.YtegcoilkdnmhoabDoor
theorem shaJoined_holds : Rows.ShaJoinedCardSaid := shaJoined.card
#print axioms shaJoined_holds
end Go.Proofs.YtegcoilkdnmhoabDoor
