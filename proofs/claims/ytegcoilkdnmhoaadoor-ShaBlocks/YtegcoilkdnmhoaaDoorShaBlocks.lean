/- For every eight numbers and every 64 bytes the law ShaBlocks returns true and both read as they did (P2.1): what any 64 bytes make of any eight numbers is as the document says. The package's table is as the program's text lays it (the card ties it). -/
import Derived.Test.YtegcoilkdnmhoaaDoorDoor
import Derived.Test.YtegcoilkdnmhoaaDoorShaSum
import Derived.Test.YtegcoilkdnmhoaaDoorEql
import Derived.Test.YtegcoilkdnmhoaaDoorRefBlock
import Derived.WalkKit
import Derived.ShutString
import Derived.ChangeOld
import Derived.Below
namespace Go.Proofs.YtegcoilkdnmhoaaDoor.shaBlocks
open Go.ChangeShapes Go.WideShapes Go.ChangeAt Go.RowKit
open Go.ChangeMaps (open_string shut_string)
set_option linter.unusedVariables false

theorem laidOut : laidOutB Tryd.prog = true := by kernel_rfl

/-- what stays while the law goes on -/
structure SB (N : Nat) (s : St) (b : List Int) (w wr : World) : Prop where
  low : Below N w wr
  size : N + 2 ≤ wr.heap.size
  st : wr.heap[N]? = some (.cells s.cells 35 (0, 0))
  inp : wr.heap[N + 1]? = some (.cells (bv b).toArray 36 (0, 0))
  tab : Tab wr
theorem SB.drewN {N : Nat} {s : St} {b : List Int} {w wr : World} (h : SB N s b w wr) (n : Nat) : SB N s b w (wr.drewN n) := ⟨below_drewN h.low n, h.size, h.st, h.inp, h.tab.drewN n⟩
theorem SB.step {N : Nat} {s : St} {b : List Int} {w wr w1 : World} (h : SB N s b w wr) (hb : Below wr.heap.size wr w1) : SB N s b w w1 := by
  have hs := h.size
  exact ⟨h.low.trans (hb.mono (by omega)), Nat.le_trans h.size hb.size, by rw [hb.block _ (by omega)]; exact h.st, by rw [hb.block _ (by omega)]; exact h.inp, h.tab.below hb⟩
theorem SB.held {N : Nat} {s : St} {b : List Int} {w w' : World} (h : SB N s b w w') : w'.cell? ⟨N, 0, none⟩ = some (.int .u32 s.a) ∧ w'.cell? ⟨N, 1, none⟩ = some (.int .u32 s.b) ∧ w'.cell? ⟨N, 2, none⟩ = some (.int .u32 s.c) ∧ w'.cell? ⟨N, 3, none⟩ = some (.int .u32 s.d) ∧ w'.cell? ⟨N, 4, none⟩ = some (.int .u32 s.e) ∧ w'.cell? ⟨N, 5, none⟩ = some (.int .u32 s.f) ∧ w'.cell? ⟨N, 6, none⟩ = some (.int .u32 s.g) ∧ w'.cell? ⟨N, 7, none⟩ = some (.int .u32 s.h) ∧ w'.rangeAt (N + 1) 0 (bv b) ∧ SB N s b w w' := by
  obtain ⟨c0, c1, c2, c3, c4, c5, c6, c7⟩ := st_cell (s := s) h.st
  exact ⟨c0, c1, c2, c3, c4, c5, c6, c7, range_row h.inp, h⟩
theorem sb_tab {N : Nat} {s : St} {b : List Int} {w w' : World} {p0 p1 p2 p3 p4 p5 p6 p7 p8 : Prop} (h : p0 ∧ p1 ∧ p2 ∧ p3 ∧ p4 ∧ p5 ∧ p6 ∧ p7 ∧ p8 ∧ SB N s b w w') : Tab w' := h.2.2.2.2.2.2.2.2.2.tab
theorem sb_step {N : Nat} {s : St} {b : List Int} {w w' w1 : World} {p0 p1 p2 p3 p4 p5 p6 p7 p8 : Prop} (h : p0 ∧ p1 ∧ p2 ∧ p3 ∧ p4 ∧ p5 ∧ p6 ∧ p7 ∧ p8 ∧ SB N s b w w') (hb : Below w'.heap.size w' w1) : w1.cell? ⟨N, 0, none⟩ = some (.int .u32 s.a) ∧ w1.cell? ⟨N, 1, none⟩ = some (.int .u32 s.b) ∧ w1.cell? ⟨N, 2, none⟩ = some (.int .u32 s.c) ∧ w1.cell? ⟨N, 3, none⟩ = some (.int .u32 s.d) ∧ w1.cell? ⟨N, 4, none⟩ = some (.int .u32 s.e) ∧ w1.cell? ⟨N, 5, none⟩ = some (.int .u32 s.f) ∧ w1.cell? ⟨N, 6, none⟩ = some (.int .u32 s.g) ∧ w1.cell? ⟨N, 7, none⟩ = some (.int .u32 s.h) ∧ w1.rangeAt (N + 1) 0 (bv b) ∧ SB N s b w w1 := (h.2.2.2.2.2.2.2.2.2.step hb).held
theorem reffirst_st (w : World) : Calls Tryd.prog 20 #[] w fun e w' => e = .returned (.agg st0.cells) ∧ Below w.heap.size w w' := reffirst_any w
/-- an array of integers that came in, opened -/
theorem open_arr {H : Type} {enc : TypeId × Value → H} {W : World} {base : Nat} {t e : TypeId} {n : Nat} {k : IntKind} {v : Value} {d : DataW H} {p : List MemPlace} {sp : Nat → Bool} {held : Bool} {bs : Nat}
    (hu : Tryd.prog.underlying t = some (.array n e)) (he : Tryd.prog.underlying e = some (.int k)) (hce : Tryd.prog.cellsOf e = 1) (hct : Tryd.prog.cellsOf t = n)
    (hv : Value.okWide Tryd.prog W .any base t v) (h : DataW.Trod enc Tryd.prog W bs sp held t v d p) : ∃ zs : List Int, v = .agg (zs.map (Value.int k)).toArray ∧ zs.length = n ∧ ∀ z ∈ zs, (Lit.int k z).wf = true := by
  simp only [Value.okWide, hu] at hv
  obtain ⟨cs, rfl, hsz, _⟩ := hv
  obtain ⟨fuel, hf⟩ := h
  obtain ⟨xs, m, rfl, _, hlen, hn, hel⟩ := DataW.trod_array hu hf
  have hcell : ∀ i, i < n → ∃ z, cs[i]? = some (.int k z) ∧ (Lit.int k z).wf = true := by
    intro i hi
    have h1 := hel i hi
    rw [List.getElem?_eq_getElem (by omega)] at h1
    obtain ⟨z, hc, _, hw⟩ := DataW.trod_int he h1
    refine ⟨z, ?_, hw⟩
    have := congrArg (·[0]?) hc
    simpa [hce, Value.cells, List.getElem?_take, List.getElem?_drop] using this
  have hcl : cs.size = n := by rw [hsz, hct]
  refine ⟨cs.toList.map intOf, ?_, by simp [hcl], ?_⟩
  · congr 1
    apply Array.ext_getElem?
    intro i
    have hR : ((cs.toList.map intOf).map (Value.int k)).toArray[i]? = (cs[i]?.map intOf).map (Value.int k) := by simp
    rw [hR]
    by_cases hi : i < n
    · obtain ⟨z, hz, _⟩ := hcell i hi
      rw [hz]; rfl
    · rw [Array.getElem?_eq_none (by omega)]; rfl
  · intro z hz
    obtain ⟨v, hv, rfl⟩ := List.mem_map.1 hz
    obtain ⟨i, hi, e⟩ := List.mem_iff_getElem.1 hv
    obtain ⟨z', hz', hw⟩ := hcell i (by rw [Array.length_toList, hcl] at hi; exact hi)
    rw [← Array.getElem?_toList, List.getElem?_eq_getElem hi, e] at hz'
    cases hz'
    exact hw
theorem open_eight (z : List Int) (hl : z.length = 8) (hw : ∀ n ∈ z, (Lit.int .u32 n).wf = true) : ∃ s : St, StU s ∧ z = s.list := by
  match z, hl, hw with
  | [a, b, c, d, e, f, g, h], _, hw =>
    have bd : ∀ n ∈ [a, b, c, d, e, f, g, h], U32 n := fun n hn => by
      have := bounds_u32 (hw n hn)
      exact ⟨this.1, by omega⟩
    exact ⟨⟨a, b, c, d, e, f, g, h⟩, ⟨bd _ (by simp), bd _ (by simp), bd _ (by simp), bd _ (by simp), bd _ (by simp), bd _ (by simp), bd _ (by simp), bd _ (by simp)⟩, rfl⟩

set_option maxRecDepth 100000 in
set_option maxHeartbeats 1000000 in
theorem walk (s : St) (b : List Int) (hs : StU s) (hb : Byt b) (hl : b.length = 64) (w : World) (htab : Tab w) :
    Calls Tryd.prog 5 #[.agg s.cells, .agg (bv b).toArray] w fun e w' => e = .returned (.bool true) ∧ Below w.heap.size w w' := by
  have hkept : SB w.heap.size s b w ((w.alloc (.cells s.cells 35)).alloc (.cells (bv b).toArray 36)) := by
    have hlow : Below w.heap.size w ((w.alloc (.cells s.cells 35)).alloc (.cells (bv b).toArray 36)) := ((Below.refl _ _).alloc (Nat.le_refl _) _).alloc (by simp) _
    refine ⟨hlow, by simp, ?_, ?_, htab.below hlow⟩
    · rw [heap_alloc_old _ _ (by simp), heap_alloc_new]
    · rw [show w.heap.size + 1 = (w.alloc (.cells s.cells 35)).heap.size from by simp, heap_alloc_new]
  have hi' : (Tryd.prog.info? 36).map (·.size) = some (bv b).length := by rw [bv_length, hl]; exact in_info
  have heq := st_eq (blk s b)
  have heq0 := st_eq st0
  have HL : Hid (b.length = 64) := hl
  clear hl
  go_enter Tryd.func5, Tryd.ntmps5
  go_wp2
  generalize (w.alloc (.cells s.cells 35)).alloc (.cells (bv b).toArray 36) = W0 at hkept ⊢
  obtain ⟨N, hN⟩ : ∃ N, N = w.heap.size := ⟨_, rfl⟩
  rw [← hN] at hkept ⊢
  have HN : Hid (N = w.heap.size) := hN
  clear hN
  have hk := hkept.drewN 1
  clear hkept
  refine wp_region_held_drew (S := fun w' => SB N s b w w') (by kernel_rfl) hk (fun _ => ?_)
  refine wpAnyH_take (i := 0) (v := .agg (uv s.list).toArray) rfl (by kernel_rfl) (by kernel_rfl) (by kernel_rfl) (fun _ _ _ h => h) (yieldsIf_load_mid (by rfl) 35 (.tmp 2) rfl (N) 0 rfl (uv s.list) _ (fun w h => range_row h.st) Tryd.underlying35 rfl oct_info) hk ?_
  refine wpAnyH_take (i := 1) (v := .agg (bv b).toArray) rfl (by kernel_rfl) (by kernel_rfl) (by kernel_rfl) (fun _ _ _ h => h) (yieldsIf_load_mid (by rfl) 36 (.tmp 3) rfl (N + 1) 0 rfl (bv b) _ (fun w h => range_row h.inp) Tryd.underlying36 rfl hi') hk ?_
  refine wpAnyH_take (i := 3) (v := .agg (uv s.list).toArray) rfl (by kernel_rfl) (by kernel_rfl) (by kernel_rfl) (fun _ _ _ h => h) (yieldsIf_load_mid (by rfl) 35 (.tmp 2) rfl (N) 0 rfl (uv s.list) _ (fun w h => range_row h.st) Tryd.underlying35 rfl oct_info) hk ?_
  refine wpAnyH_take (i := 4) (v := .agg (bv b).toArray) rfl (by kernel_rfl) (by kernel_rfl) (by kernel_rfl) (fun _ _ _ h => h) (yieldsIf_load_mid (by rfl) 36 (.tmp 3) rfl (N + 1) 0 rfl (bv b) _ (fun w h => range_row h.inp) Tryd.underlying36 rfl hi') hk ?_
  refine wpAnyH_ready (rs := [2]) (by decide +kernel) (by simp) ?_
  refine AllReadyH.cons rfl (fun K hK => ?_) AllReadyH.nil
  go_simp
  refine (block_any s b _ hs hb HL.out hk.tab).mono ?_
  rintro e1 w2 ⟨rfl, hb1⟩
  replace hk := hk.step hb1
  refine hK.out _ _ hk (fun _ => ?_)
  clear hK K hb1
  refine wpAnyH_ready (rs := [5]) (by decide +kernel) (by simp) ?_
  refine AllReadyH.cons rfl (fun K hK => ?_) AllReadyH.nil
  go_simp
  refine (refblock_any s b _ hs hb HL.out).mono ?_
  rintro e1 w5 ⟨rfl, hb1⟩
  replace hk := hk.step hb1
  refine hK.out _ _ hk (fun _ => ?_)
  clear hK K hb1
  refine wpAnyH_ready (rs := [6]) (by decide +kernel) (by simp) ?_
  refine AllReadyH.cons rfl (fun K hK => ?_) AllReadyH.nil
  go_simp
  refine hK.out _ _ hk (fun _ => ?_)
  clear hK K
  refine wpAnyH_ready (rs := [7]) (by decide +kernel) (by simp) ?_
  refine AllReadyH.cons rfl (fun K hK => ?_) AllReadyH.nil
  go_simp
  refine hK.out _ _ hk (fun _ => ?_)
  clear hK K
  refine wpAnyH_ready (rs := [8]) (by decide +kernel) (by simp) ?_
  refine AllReadyH.cons rfl (fun K hK => ?_) AllReadyH.nil
  go_simp
  refine (first_any _).mono ?_
  rintro e1 w8 ⟨rfl, hb1⟩
  replace hk := hk.step hb1
  refine hK.out _ _ hk (fun _ => ?_)
  clear hK K hb1
  refine wpAnyH_ready (rs := [9]) (by decide +kernel) (by simp) ?_
  refine AllReadyH.cons rfl (fun K hK => ?_) AllReadyH.nil
  go_simp
  refine (reffirst_st _).mono ?_
  rintro e1 w9 ⟨rfl, hb1⟩
  replace hk := hk.step hb1
  refine hK.out _ _ hk (fun _ => ?_)
  clear hK K hb1
  refine wpAnyH_ready (rs := [10]) (by decide +kernel) (by simp) ?_
  refine AllReadyH.cons rfl (fun K hK => ?_) AllReadyH.nil
  go_simp
  refine hK.out _ _ hk (fun _ => ?_)
  clear hK K
  refine wpAnyH_ready (rs := [11]) (by decide +kernel) (by simp) ?_
  refine AllReadyH.cons rfl (fun K hK => ?_) AllReadyH.nil
  go_simp
  refine hK.out _ _ hk (fun _ => ?_)
  clear hK K
  refine wpAnyH_ready (rs := [12]) (by decide +kernel) (by simp) ?_
  refine AllReadyH.cons rfl (fun K hK => ?_) AllReadyH.nil
  go_simp
  refine hK.out _ _ hk (fun _ => ?_)
  clear hK K
  refine wpAnyH_ready (rs := [13]) (by decide +kernel) (by simp) ?_
  refine AllReadyH.cons rfl (fun K hK => ?_) AllReadyH.nil
  go_simp
  refine (lives_any _ hk.tab).mono ?_
  rintro e1 w13 ⟨rfl, hb1⟩
  replace hk := hk.step hb1
  refine hK.out _ _ hk (fun _ => ?_)
  clear hK K hb1
  refine wpAnyH_ready (rs := [14]) (by decide +kernel) (by simp) ?_
  refine AllReadyH.cons rfl (fun K hK => ?_) AllReadyH.nil
  go_simp
  refine hK.out _ _ hk (fun _ => ?_)
  clear hK K
  refine wpAnyH_ready (rs := [15]) (by decide +kernel) (by simp) ?_
  refine AllReadyH.cons rfl (fun K hK => ?_) AllReadyH.nil
  go_simp
  refine hK.out _ _ hk (fun _ => ?_)
  clear hK K
  refine wpAnyH_done (by decide +kernel) ?_ _
  have hlow : Below w.heap.size w w13 := by rw [← HN.out]; exact hk.low
  clear hk heq heq0 hi'
  go_wp2
  go_ret
  exact ⟨rfl, hlow⟩

/-- what the walk gives, for every argument and every world that holds the table -/
theorem contract (H : Type) (enc : TypeId × Value → H) (W : World) (base : Nat) (args : Array Value) (ds gs : List (DataW H)) (before : List MemPlace)
    (hval0 : ∀ (j : Nat) t v, Tryd.f5.params[j]? = some t → args[j]? = some v → Value.okWide Tryd.prog W .any base t v)
    (hW : DataW.Whole enc Tryd.prog Tryd.f5.params.toList Rows.shaBlocksSpec.vars false W args.toList ds gs before) (hL : laidMetH Tryd.prog Rows.shaBlocksRow.laid W) :
    Calls Tryd.prog 5 args W fun e W' => ∃ v, e = .returned v ∧ Rows.shaBlocksSpec.post enc Tryd.prog Tryd.f5 false true false false W args v W' := by
  have htab := tab_of_laid hL
  have hval : ∀ (j : Nat) t v, Tryd.f5.params[j]? = some t → args[j]? = some v → Value.okWide Tryd.prog W .any base t v := hval0
  have hW' := hW
  obtain ⟨p, q, hA0, hV, rfl, hfz, hnd⟩ := hW
  have hA : DataW.TrodAll enc Tryd.prog W 0 (fun _ => true) true Tryd.f5.params.toList args.toList ds p := hA0
  rw [Tryd.params5] at hA hval
  obtain ⟨v0, vs0, d0, ds0, p0, q0, hargs, rfl, rfl, h0, r0⟩ := trodAll_cons hA
  obtain ⟨v1, vs1, d1, ds1, p1, q1, rfl, rfl, rfl, h1, r1⟩ := trodAll_cons r0
  obtain ⟨rfl, rfl, rfl⟩ := trodAll_nil r1
  obtain rfl : args = #[v0, v1] := by cases args; simp_all
  obtain ⟨rfl, rfl⟩ := trodVars_none hV
  have k0 := h0
  have k1 := h1
  have lt0 : ∀ x ∈ p0, x.block < W.heap.size := by obtain ⟨m, hm⟩ := k0; exact DataW.trod_lt m _ _ _ hm
  have lt1 : ∀ x ∈ p1, x.block < W.heap.size := by obtain ⟨m, hm⟩ := k1; exact DataW.trod_lt m _ _ _ hm
  obtain ⟨z0, rfl, n0, w0⟩ := open_arr Tryd.underlying35 Tryd.underlying34 (by kernel_rfl) (by kernel_rfl) (hval 0 35 v0 rfl rfl) h0
  obtain ⟨z1, rfl, n1, w1⟩ := open_arr Tryd.underlying36 Tryd.underlying5 (by kernel_rfl) (by kernel_rfl) (hval 1 36 v1 rfl rfl) h1
  obtain ⟨s, hs, rfl⟩ := open_eight z0 n0 w0
  clear hA0 hval0
  refine (walk s z1 hs (fun c hc => bounds_u8 (w1 c hc)) n1 W htab).mono fun e W' ⟨he, bel⟩ => ?_
  subst he
  exact ⟨_, rfl, _, _, _, [], _, [], hW', trodAll_mk1 (shut_bool Tryd.underlying4 _), (trodAll_cons_mk (Below.trod laidOut (by kernel_rfl) (of_decide_eq_true (by kernel_rfl)) k0 bel lt0) (trodAll_cons_mk (Below.trod laidOut (by kernel_rfl) (of_decide_eq_true (by kernel_rfl)) k1 bel lt1) trodAll_mk0)), rfl, bel.frame _, fun h => by cases h⟩

set_option maxRecDepth 100000 in
theorem laid_met (os : Os) : laidMet Tryd.prog Rows.shaBlocksRow.laid (({ World.holding Tryd.prog os ⟨#[], #[], []⟩ with heap := (World.holding Tryd.prog os ⟨#[], #[], []⟩).heap.setIfInBounds 0 (.cells (uv keyL).toArray 53) } : World).forCall (fun _ _ => 0) ⟨#[], #[.agg (uv (List.replicate 8 0)).toArray, .agg (bv (List.replicate 64 0)).toArray], []⟩).memory :=
  laidMet_of_run' 8 (by kernel_rfl) (by kernel_rfl)
theorem reads (os : Os) {H : Type} (enc : TypeId × Value → H) : ∃ places, DataW.whole enc Tryd.prog (({ World.holding Tryd.prog os ⟨#[], #[], []⟩ with heap := (World.holding Tryd.prog os ⟨#[], #[], []⟩).heap.setIfInBounds 0 (.cells (uv keyL).toArray 53) } : World).forCall (fun _ _ => 0) ⟨#[], #[.agg (uv (List.replicate 8 0)).toArray, .agg (bv (List.replicate 64 0)).toArray], []⟩).memory Tryd.f5.params.toList Rows.shaBlocksSpec.vars false (#[.agg (uv (List.replicate 8 0)).toArray, .agg (bv (List.replicate 64 0)).toArray] : Array Value).toList 8 = some ([.agg (List.replicate 8 (.lit (.int .u32 0))), .agg (List.replicate 64 (.lit (.int .u8 0)))], [], places) :=
  ⟨[], by kernel_rfl⟩
set_option maxRecDepth 100000 in
theorem lifted (os : Os) (started : os.Started) (H : Type) (enc : TypeId × Value → H) (F : Stop.Interp) :
    ReturnsInHanded {} Tryd.checked os 5 .any ((OpenSpec.ofChange Rows.shaBlocksSpec).preRow enc Tryd.prog Tryd.f5 Rows.shaBlocksRow.domain false Rows.shaBlocksRow.laid) (((OpenSpec.ofChange Rows.shaBlocksSpec).at F).post enc Tryd.prog Tryd.f5 false true false false) := by
  obtain ⟨places, hx⟩ := reads os enc
  refine returnsInHanded_of_row (C := Tryd.checked) (s := OpenSpec.ofChange Rows.shaBlocksSpec) own started (by kernel_rfl) Tryd.func5
    (witness_row_at (enc := enc) (C := Tryd.checked) false ({ World.holding Tryd.prog os ⟨#[], #[], []⟩ with heap := (World.holding Tryd.prog os ⟨#[], #[], []⟩).heap.setIfInBounds 0 (.cells (uv keyL).toArray 53) } : World) #[.agg (uv (List.replicate 8 0)).toArray, .agg (bv (List.replicate 64 0)).toArray] rfl (by kernel_rfl) (by kernel_rfl) (by kernel_rfl)
      (OpenSpec.preRow_of_cond 8 hx (by kernel_rfl) (fun k hk => by cases hk) (by kernel_rfl) (laid_met os))) ?_
  intro W base args ds gs before hval hW _ _ _ hL _ _
  exact contract H enc W base args ds gs before hval hW hL
theorem said : Rows.ShaBlocksSaid :=
  OpenClaim.holds_of_cond 5 Tryd.f5 rfl rfl rfl rfl rfl rfl rfl ⟨rfl, rfl, rfl, rfl, rfl⟩ rfl rfl rfl rfl rfl (by kernel_rfl) Tryd.func5 (by kernel_rfl)
    (of_decide_eq_true (by kernel_rfl)) (by unfold Func.isWrapper; first | (rw [if_pos (by decide +kernel)]; kernel_rfl) | (rw [if_neg (by decide +kernel)]; exact ⟨rfl, rfl⟩))
    (fun os started H enc _ F => by rw [OpenClaim.pre_eq_preRow]; exact lifted os started H enc F)
theorem plain (f : FuncId) (fn : Func) (hf : Tryd.pinned.checked.prog.funcNamed "inquest/inquestlaw02.ShaBlocks" = some f) (hfn : Tryd.pinned.checked.prog.funcs[f]? = some fn) :
    false = Tryd.pinned.checked.prog.looks [] ∧ ∀ (j : Nat) t, fn.params[j]? = some t → Tryd.pinned.checked.prog.wantsStandIn t = false := by
  obtain rfl : f = 5 := Option.some.inj ((show Tryd.prog.funcNamed "inquest/inquestlaw02.ShaBlocks" = some 5 by kernel_rfl).symm.trans hf) |>.symm
  obtain rfl : fn = Tryd.f5 := (Option.some.inj (Tryd.func5.symm.trans hfn)).symm
  refine ⟨by kernel_rfl, fun j t ht => ?_⟩
  rw [Tryd.params5] at ht
  have hall : ([35, 36].all fun u => !Tryd.prog.wantsStandIn u) = true := by kernel_rfl
  have hm : t ∈ [35, 36] := by simpa using Array.mem_of_getElem? ht
  exact (show Tryd.prog.wantsStandIn t = false by simpa using List.all_eq_true.1 hall t hm)
/-- the tied card -/
theorem card : Rows.ShaBlocksCardSaid :=
  Claim7.holds_tied_plain_at .later [] _ _ _ _ said (fun _ h => by cases h) (by kernel_rfl) (fun _ h => by cases h) shaBlocks_row_tie rfl ⟨rfl, rfl⟩ (by kernel_rfl) rfl plain (by kernel_rfl)
end Go.Proofs.YtegcoilkdnmhoaaDoor.shaBlocks
namespace Go.Proofs.YtegcoilkdnmhoaaDoor
theorem shaBlocks_holds : Rows.ShaBlocksCardSaid := shaBlocks.card
#print axioms shaBlocks_holds
end Go.Proofs.YtegcoilkdnmhoaaDoor
