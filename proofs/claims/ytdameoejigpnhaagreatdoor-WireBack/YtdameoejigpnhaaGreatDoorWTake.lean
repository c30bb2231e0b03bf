/- A new reader; what Take hands out; whether nothing came. -/
import Derived.Test.YtdameoejigpnhaaGreatDoorWPut
namespace Go.Proofs.YtdameoejigpnhaaGreatDoor
open Go.RowKit
set_option linter.unusedVariables false

variable {g : Nat} {own : Nat → Prop}
def rowNew : Array Value := #[.int .i64 1, .int .i64 0, .slice none 0 0, .bool false, .string ⟨#[]⟩, .string ⟨#[]⟩, .string ⟨#[]⟩, .slice none 0 0, .int .i64 0, .bool false, .int .i64 0, .int .i64 0, .int .i64 0, .slice none 0 0, .pointer none]
set_option maxRecDepth 100000 in
theorem wat_new {w : World} {v : Value} {l : List Int} (h : Bk w g own rowNew v l) : Wat w g own (.ok ws0) :=
  ⟨[], .slice none 0 0, false, rfl, ⟨by decide, Nat.le_refl _, fun c hc => (by cases hc), fun _ => rfl, fun h => absurd rfl h, by decide, by decide⟩, Bk.nil h⟩
set_option maxHeartbeats 400000 in
theorem wnew_any (w : World) :
    Calls Tryz.prog 16 #[] w fun e w' => e = .returned (.pointer (some ⟨w.heap.size, 0, none⟩)) ∧ Wat w' w.heap.size (fun k => k = w.heap.size) (.ok ws0) ∧ Below w.heap.size w w' := by
  have HN : Bx (Bk (w.alloc (.cells rowNew 75)) w.heap.size (fun k => k = w.heap.size) rowNew (.slice none 0 0) []) := ⟨⟨Byt.nil, rfl, fun k hk => by rw [hk]; simp, heap_alloc_new w _, World.ownsRow_nil _ _ _ _, fun k hk => by cases hk⟩⟩
  have HB : Bx (Below w.heap.size w (w.alloc (.cells rowNew 75))) := ⟨(Below.refl _ _).alloc (Nat.le_refl _) _⟩
  go_enter Tryz.func16, Tryz.ntmps16
  go_wp2
  go_ret
  exact ⟨rfl, wat_new HN.out, HB.out⟩
set_option maxRecDepth 100000 in
set_option maxHeartbeats 1000000 in
theorem widle_any (r : WR) (w : World) (h : Wat w g own r) :
    Calls Tryz.prog 19 #[.pointer (some ⟨g, 0, none⟩)] w fun e w' => e = .returned (.bool (idl r)) ∧ w' = w := by
  have NO : ∀ (x : Int) (c0 : w.cell? ⟨g, 0, none⟩ = some (.int .i64 x)) (h0 : x ≠ 0) (h1 : (x == 1) = false), Calls Tryz.prog 19 #[.pointer (some ⟨g, 0, none⟩)] w fun e w' => e = .returned (.bool false) ∧ w' = w := by
    intro x c0 h0 h1
    have C1 : Hid (Calls Tryz.prog 30 #[.pointer (some ⟨g, 0, none⟩)] w fun e w' => e = .returned (.bool true) ∧ w = w') := (wmade_yes x w c0 h0).mono fun e w' h => ⟨h.1, h.2.symm⟩
    clear h h0
    go_enter Tryz.func19, Tryz.ntmps19
    go_wp2_with fail
    refine C1.out.mono ?_
    rintro e w1 ⟨rfl, rfl⟩
    go_wp2
    go_ret
    exact ⟨rfl, rfl⟩
  match r, h with
  | .ok (.fix h left body), ⟨H, _, _, _, CV, hB⟩ => exact NO 2 (hB.cell 0) (by decide) rfl
  | .ok (.chk h c), ⟨H, _, _, g2, own2, hB, _⟩ => exact NO 2 (hB.cell 0) (by decide) rfl
  | .ok (.done x), ⟨H, h, _, hh⟩ =>
    rcases hh with ⟨body, _, _, CV, hB⟩ | ⟨c, _, g2, own2, hB, _⟩
    · exact NO 3 (hB.cell 0) (by decide) rfl
    · exact NO 3 (hB.cell 0) (by decide) rfl
  | .bad, hB => exact NO 4 (Bk.cell hB 0) (by decide) rfl
  | .ok (.head h lines cnt cur), ⟨line, LV, cr, _, hi, hm⟩ =>
    have c0 := hm.c0
    have c1 : w.cell? ⟨g, 1, none⟩ = some (.int .i64 (cnt : Int)) := hm.c1
    have C1 : Hid (Calls Tryz.prog 30 #[.pointer (some ⟨g, 0, none⟩)] w fun e w' => e = .returned (.bool true) ∧ w = w') := (wmade_yes 1 w c0 (by decide)).mono fun e w' h => ⟨h.1, h.2.symm⟩
    have HID : Bx (idl (.ok (.head h lines cnt cur)) = ((cnt : Int) == 0)) := ⟨by
      show decide (cnt = 0) = _
      by_cases h0 : cnt = 0
      · subst h0; rfl
      · rw [decide_eq_false h0]; symm; simp; omega⟩
    generalize (cnt : Int) = CI at c1 HID
    generalize hz : (CI == 0) = Z at HID
    clear hm hi NO
    go_enter Tryz.func19, Tryz.ntmps19
    go_wp2_with fail
    refine C1.out.mono ?_
    rintro e w1 ⟨rfl, rfl⟩
    go_wp2
    go_ret
    exact ⟨by rw [HID.out]; rfl, rfl⟩
set_option maxRecDepth 100000 in
theorem req_info : (Tryz.prog.info? 26).map (·.size) = some 4 := by kernel_rfl
set_option maxRecDepth 100000 in
theorem results_rt {fn : Func} {s p : Tmp} (h : fn.results = #[.cell p 26, .tmp s]) (tmps : Array Value) (w : World) (g : Nat) (cs : Array Value) (v : Value)
    (hs : tmps.getD s undef = v) (hp : tmps.getD p undef = .pointer (some ⟨g, 0, none⟩)) (hg : w.heap[g]? = some (.cells cs 26 (0, 0))) (hi : (Tryz.prog.info? 26).map (·.size) = some cs.size) :
    (results fn tmps).run Tryz.prog w = .ok (.tuple #[.agg cs, v]) w := by
  have hp' : tmps[p]?.getD undef = .pointer (some ⟨g, 0, none⟩) := by simpa using hp
  have hs' : tmps[s]?.getD undef = v := by simpa using hs
  simp [results, h, hp', hs', asAddr, run_loadVar_row w g 26 26 cs (0, 0) _ hg Tryz.underlying26 rfl hi]
def reqZ : Array Value := #[.string ⟨#[]⟩, .string ⟨#[]⟩, .string ⟨#[]⟩, .slice none 0 0]
set_option maxRecDepth 100000 in
set_option maxHeartbeats 1000000 in
theorem wtake_no (x : Int) (w : World) (hg : g < w.heap.size) (c0 : w.cell? ⟨g, 0, none⟩ = some (.int .i64 x)) (h0 : x ≠ 0) (h3 : x ≠ 3) :
    Calls Tryz.prog 20 #[.pointer (some ⟨g, 0, none⟩)] w fun e w' => e = .returned (.tuple #[.agg reqZ, .bool false]) ∧ Below w.heap.size w w' := by
  have hb0 : Below w.heap.size w (w.alloc (.cells reqZ 26)) := (Below.refl _ _).alloc (Nat.le_refl _) _
  have d0 : (w.alloc (.cells reqZ 26)).cell? ⟨g, 0, none⟩ = some (.int .i64 x) := (hb0.cell (p := ⟨g, 0, none⟩) hg).trans c0
  have C1 : Hid (Calls Tryz.prog 30 #[.pointer (some ⟨g, 0, none⟩)] (w.alloc (.cells reqZ 26)) fun e w' => e = .returned (.bool true) ∧ (w.alloc (.cells reqZ 26)) = w') := (wmade_yes x _ d0 h0).mono fun e w' h => ⟨h.1, h.2.symm⟩
  have HROW : Bx ((w.alloc (.cells reqZ 26)).heap[w.heap.size]? = some (.cells reqZ 26 (0, 0))) := ⟨heap_alloc_new w _⟩
  have HTH : Bx ((w.alloc (.cells reqZ 26)).there w.heap.size 0 4) := ⟨there_row HROW.out⟩
  have HST : Bx (((w.alloc (.cells reqZ 26)).setCells w.heap.size 0 reqZ.toList).heap[w.heap.size]? = some (.cells reqZ 26 (0, 0))) := ⟨heap_stored HROW.out rfl⟩
  have HBS : Bx (Below w.heap.size w ((w.alloc (.cells reqZ 26)).setCells w.heap.size 0 reqZ.toList)) := ⟨below_setCells hb0 _ (Nat.le_refl _) _ 0⟩
  have hx3 : (x != 3) = true := by simpa using h3
  clear hb0 c0 h0 h3
  generalize hw1 : w.alloc (.cells reqZ 26) = W1 at *
  unfold reqZ at hw1
  go_enter Tryz.func20, Tryz.ntmps20
  go_wp2_with fail
  refine C1.out.mono ?_
  rintro e w1 ⟨rfl, rfl⟩
  clear hw1
  go_wp2_with (refine wpList_store_mid rfl 26 (.tmp 2) (.tmp 15) rfl w.heap.size 0 reqZ rfl rfl HTH.out req_info (by simp [Value.oneCell', reqZ]) ?_)
  exact bodyPost_ret (v := .tuple #[.agg reqZ, .bool false]) (results_rt rfl _ _ w.heap.size reqZ _ rfl rfl HST.out req_info) rfl ⟨rfl, HBS.out⟩
/-- a request in memory -/
def reqV (x : WX) (v : Value) : Value := .agg #[.string x.m, .string x.t, .string x.k, v]
/-- what the body says -/
def SaidP (own : Nat → Prop) (g : Nat) (b : List Int) (w w' : World) (v : Value) : Prop := Byt b ∧ w'.ownsRow 0 5 1 v b.length (bv b) ∧ (∀ k, v.ownBlock = some k → k ≠ g ∧ (own k ∨ (w.heap.size ≤ k))) ∧ Below w.heap.size w w'
set_option maxRecDepth 100000 in
set_option maxHeartbeats 1000000 in
theorem wsaid_fix (H : HM) (lf x : Int) (body : List Int) (w : World) (h : FixM w g own x H lf body) :
    Calls Tryz.prog 34 #[.pointer (some ⟨g, 12, none⟩)] w fun e w' => ∃ v, e = .returned v ∧ SaidP own g body w w' v := by
  obtain ⟨CV, hB⟩ := h
  have c13 : w.cell? ⟨g, 13, none⟩ = some CV := hB.cell 13
  have c14 : w.cell? ⟨g, 14, none⟩ = some (.pointer none) := hB.cell 14
  have HP : Bx (SaidP own g body w w CV) := ⟨hB.byt, hB.vr, fun k hk => ⟨hB.ne hk, .inl (hB.ov k hk)⟩, Below.refl _ _⟩
  clear hB
  go_enter Tryz.func34, Tryz.ntmps34
  go_wp2
  go_ret
  exact ⟨_, rfl, HP.out⟩
set_option maxRecDepth 100000 in
set_option maxHeartbeats 1000000 in
theorem wsaid_chk (H : HM) (x : Int) (c : CS) (w : World) (h : ChkM w g own x H c) :
    Calls Tryz.prog 34 #[.pointer (some ⟨g, 12, none⟩)] w fun e w' => ∃ v, e = .returned v ∧ SaidP own g c.body w w' v := by
  obtain ⟨g2, own2, hB, hR, hs⟩ := h
  have c14 : w.cell? ⟨g, 14, none⟩ = some (.pointer (some ⟨g2, 0, none⟩)) := hB.cell 14
  have HR := Bx.mk hR
  have HG : Bx (g < w.heap.size) := ⟨hB.lt g hB.og⟩
  clear hB hR hs
  go_enter Tryz.func34, Tryz.ntmps34
  go_wp2_with fail
  refine (cbody_any g2 own2 2048 c _ HR.out).mono ?_
  rintro e w1 ⟨v, rfl, ho, hb⟩
  have HP : Bx (SaidP own g c.body w w1 v) := ⟨HR.out.1.byt, owns_base ho (Nat.zero_le _), fun k hk => by
    rcases ho.2 with ⟨rfl, _⟩ | ⟨g', cap, cur, rfl, hg', _⟩
    · cases hk
    · obtain rfl : g' = k := by simpa [Value.ownBlock] using hk
      exact ⟨by have := HG.out; omega, .inr hg'⟩, hb⟩
  clear ho hb
  go_wp2
  go_ret
  exact ⟨_, rfl, HP.out⟩
set_option maxRecDepth 100000 in
theorem req_one (m t k : ByteArray) (v : Value) (h : v.oneCell' = true) : (#[.string m, .string t, .string k, v] : Array Value).all (·.oneCell') = true := all_oneCell_toArray (cs := [.string m, .string t, .string k, v]) (by
  intro u hu
  simp only [List.mem_cons, List.not_mem_nil, or_false] at hu
  rcases hu with rfl | rfl | rfl | rfl <;> first | rfl | exact h)
/-- what Take hands out -/
def TakP (own : Nat → Prop) (g : Nat) (x : WX) (w w' : World) (v : Value) (own' : Nat → Prop) : Prop :=
  Byt x.b ∧ w'.ownsRow 0 5 1 v x.b.length (bv x.b) ∧ (∀ k, v.ownBlock = some k → ¬ own' k ∧ (own k ∨ w.heap.size ≤ k)) ∧ Did own w w' own'
set_option maxRecDepth 100000 in
set_option maxHeartbeats 2000000 in
theorem wtake_yes (H : HM) (h : HD) (lf : Int) (CV PV : Value) (v : Value) (l : List Int) (b : List Int) (w : World) (hx : Hx H h) (hB : Bk w g own (rowH 3 H lf CV PV) v l) (hS : ∀ w0, Below w.heap.size w w0 → Calls Tryz.prog 34 #[.pointer (some ⟨g, 12, none⟩)] w0 fun e w' => ∃ v, e = .returned v ∧ SaidP own g b w0 w' v) :
    Calls Tryz.prog 20 #[.pointer (some ⟨g, 0, none⟩)] w fun e w' => ∃ v own', e = .returned (.tuple #[reqV (h.x b) v, .bool true]) ∧ Wat w' g own' (.ok ws0) ∧ TakP own g (h.x b) w w' v own' := by
  have hb0 : Below w.heap.size w (w.alloc (.cells reqZ 26)) := (Below.refl _ _).alloc (Nat.le_refl _) _
  have hB0 := hB.below hb0
  have d0 : (w.alloc (.cells reqZ 26)).cell? ⟨g, 0, none⟩ = some (.int .i64 3) := hB0.cell 0
  have d4 : (w.alloc (.cells reqZ 26)).cell? ⟨g, 4, none⟩ = some (.string H.m) := hB0.cell 4
  have d5 : (w.alloc (.cells reqZ 26)).cell? ⟨g, 5, none⟩ = some (.string H.t) := hB0.cell 5
  have d6 : (w.alloc (.cells reqZ 26)).cell? ⟨g, 6, none⟩ = some (.string H.k) := hB0.cell 6
  have d7 : (w.alloc (.cells reqZ 26)).cell? ⟨g, 7, none⟩ = some (.slice none 0 0) := hB0.cell 7
  have C1 : Hid (Calls Tryz.prog 30 #[.pointer (some ⟨g, 0, none⟩)] (w.alloc (.cells reqZ 26)) fun e w' => e = .returned (.bool true) ∧ (w.alloc (.cells reqZ 26)) = w') := (wmade_yes 3 _ d0 (by decide)).mono fun e w' h => ⟨h.1, h.2.symm⟩
  have HROW : Bx ((w.alloc (.cells reqZ 26)).heap[w.heap.size]? = some (.cells reqZ 26 (0, 0))) := ⟨heap_alloc_new w _⟩
  have HRNG : Bx ((w.alloc (.cells reqZ 26)).rangeAt g 4 [.string H.m, .string H.t, .string H.k, .slice none 0 0]) := ⟨by
    intro j z hj
    match j, hj with
    | 0, hj => cases hj; exact d4
    | 1, hj => cases hj; exact d5
    | 2, hj => cases hj; exact d6
    | 3, hj => cases hj; exact d7
    | (n + 4), hj => simp at hj⟩
  have HB0 := Bx.mk hb0
  have HBK0 := Bx.mk hB0
  have HX := Bx.mk hx
  have HS := Bx.mk hS
  have HG : Bx (g < w.heap.size ∧ own g) := ⟨hB.lt g hB.og, hB.og⟩
  have HOL : Bx (∀ k, own k → k < w.heap.size) := ⟨hB.lt⟩
  clear hb0 hB0 hB hS hx d4 d5 d6 d7
  have hsz1 : (w.alloc (.cells reqZ 26)).heap.size = w.heap.size + 1 := by simp
  have HSZ1 := Bx.mk hsz1
  clear hsz1
  generalize hw1 : w.alloc (.cells reqZ 26) = W1 at *
  obtain ⟨W2, hw2⟩ : ∃ W2, W1.alloc (.cells #[.string H.m, .string H.t, .string H.k, .slice none 0 0] 26) = W2 := ⟨_, rfl⟩
  have HW2 : Bx (Below W1.heap.size W1 W2 ∧ W2.heap.size = W1.heap.size + 1 ∧ W2.heap[W1.heap.size]? = some (.cells #[.string H.m, .string H.t, .string H.k, .slice none 0 0] 26 (0, 0))) := ⟨by
    rw [← hw2]
    exact ⟨(Below.refl _ _).alloc (Nat.le_refl _) _, by simp, heap_alloc_new W1 _⟩⟩
  have HW2E := Bx.mk hw2
  clear hw2
  unfold reqZ at hw1
  go_enter Tryz.func20, Tryz.ntmps20
  go_wp2_with fail
  refine C1.out.mono ?_
  rintro e w1 ⟨rfl, rfl⟩
  clear hw1 C1
  go_wp2_with (refine wpList_load_mid rfl 26 (.tmp 19) rfl g 4 rfl [.string H.m, .string H.t, .string H.k, .slice none 0 0] _ HRNG.out Tryz.underlying26 rfl req_info ?_)
  rw [HW2E.out]
  refine (HS.out W2 (bstep HB0.out HW2.out.1)).mono ?_
  rintro e w2 ⟨v2, rfl, hsd⟩
  generalize hX : W1.heap.size = X at *
  have hXE : X = w.heap.size + 1 := by rw [← HSZ1.out]
  obtain ⟨s1, s2, s3, s4⟩ := hsd
  obtain ⟨va, vc, hv2⟩ := own_sl s2
  have hXr : w2.heap[X]? = some (.cells #[.string H.m, .string H.t, .string H.k, .slice none 0 0] 26 (0, 0)) := by rw [s4.block X (by rw [HW2.out.2.1]; omega)]; exact HW2.out.2.2
  have hRr : w2.heap[w.heap.size]? = some (.cells reqZ 26 (0, 0)) := by rw [s4.block _ (by rw [HW2.out.2.1]; omega), HW2.out.1.block _ (by omega)]; exact HROW.out
  have hBk2 : Bk w2 g own (rowH 3 H lf CV PV) v l := (HBK0.out.below (by rw [hX]; exact HW2.out.1)).below s4
  have hXn : ¬ own X := fun ho => by have := HOL.out X ho; omega
  have hXg : X ≠ g := fun e => by have := HG.out.1; omega
  have hRg : w.heap.size ≠ g := fun e => by have := HG.out.1; omega
  have k3 : w2.cell? ⟨X, 3, none⟩ = some (.slice none 0 0) := by rw [cell_of_row w2 X 3 _ _ (0, 0) hXr]; rfl
  have f3 : w2.frozen? ⟨X, 3, none⟩ = false := frozen_of_row _ _ 3 _ _ hXr
  have hX3 : (w2.setCell ⟨X, 3, none⟩ v2).heap[X]? = some (.cells #[.string H.m, .string H.t, .string H.k, v2] 26 (0, 0)) := heap_setCell_same w2 X 3 _ _ _ hXr
  have hK3 : Kept (fun k => k = X) w2 (w2.setCell ⟨X, 3, none⟩ v2) := (Kept.refl (fun k => k = X) w2).setCell (g := X) (.inl rfl) 3 v2
  have hBk3 : Bk (w2.setCell ⟨X, 3, none⟩ v2) g own (rowH 3 H lf CV PV) v l := hBk2.keptO hK3 (fun k hk e => hXn (e ▸ hk))
  obtain ⟨q1, q2, q3⟩ := hBk3.store rowNew rfl
  have hRr3 : (w2.setCell ⟨X, 3, none⟩ v2).heap[w.heap.size]? = some (.cells reqZ 26 (0, 0)) := by rw [hK3.block w.heap.size (by have := s4.size; have := HW2.out.2.1; omega) (by omega)]; exact hRr
  have hs3 : (w2.setCell ⟨X, 3, none⟩ v2).heap.size = w2.heap.size := by simp [World.setCell]
  have hX4 : ((w2.setCell ⟨X, 3, none⟩ v2).setCells g 0 rowNew.toList).heap[X]? = some (.cells #[.string H.m, .string H.t, .string H.k, v2] 26 (0, 0)) := by rw [setCells_other hXg]; exact hX3
  have hR4 : ((w2.setCell ⟨X, 3, none⟩ v2).setCells g 0 rowNew.toList).heap[w.heap.size]? = some (.cells reqZ 26 (0, 0)) := by rw [setCells_other hRg]; exact hRr3
  have HX4 := Bx.mk hX4
  have HTR : Bx (((w2.setCell ⟨X, 3, none⟩ v2).setCells g 0 rowNew.toList).there w.heap.size 0 4) := ⟨there_row hR4⟩
  have HST : Bx ((((w2.setCell ⟨X, 3, none⟩ v2).setCells g 0 rowNew.toList).setCells w.heap.size 0 #[.string H.m, .string H.t, .string H.k, v2].toList).heap[w.heap.size]? = some (.cells #[.string H.m, .string H.t, .string H.k, v2] 26 (0, 0))) := ⟨heap_stored hR4 rfl⟩
  have HQ1 := Bx.mk q1
  have HQ2 := Bx.mk q2
  have HQ3 := Bx.mk q3
  have hone : v2.oneCell' = true := by rcases s2.2 with ⟨rfl, _⟩ | ⟨g', cap, cur, rfl, _⟩ <;> rfl
  -- what is handed out lies apart
  have hblk : ∀ k, v2.ownBlock = some k → k ≠ g ∧ k ≠ X ∧ k ≠ w.heap.size ∧ (own k ∨ w.heap.size ≤ k) := fun k hk => by
    obtain ⟨r1, r2⟩ := s3 k hk
    rcases r2 with r2 | r2
    · have := HOL.out k r2; exact ⟨r1, by omega, by omega, .inl r2⟩
    · rw [HW2.out.2.1] at r2; exact ⟨r1, by omega, by omega, .inr (by omega)⟩
  have hown : (((w2.setCell ⟨X, 3, none⟩ v2).setCells g 0 rowNew.toList).setCells w.heap.size 0 #[.string H.m, .string H.t, .string H.k, v2].toList).ownsRow 0 5 1 v2 b.length (bv b) := by
    refine owns_setCells (owns_setCells (owns_setCells (vs := [v2]) (o := 3) s2 ?_) ?_) ?_
    · exact fun k hk => (hblk k hk).2.1
    · exact fun k hk => (hblk k hk).1
    · exact fun k hk => (hblk k hk).2.2.1
  have hszF : (((w2.setCell ⟨X, 3, none⟩ v2).setCells g 0 rowNew.toList).setCells w.heap.size 0 #[.string H.m, .string H.t, .string H.k, v2].toList).heap.size = w2.heap.size := by rw [setCells_size, setCells_size, hs3]
  have hBF : Bk (((w2.setCell ⟨X, 3, none⟩ v2).setCells g 0 rowNew.toList).setCells w.heap.size 0 #[.string H.m, .string H.t, .string H.k, v2].toList) g (fun k => k = g) rowNew (.slice none 0 0) [] := ⟨Byt.nil, rfl, fun k hk => by rw [hk, hszF]; exact hBk2.lt g HG.out.2, by rw [setCells_other (fun e => hRg e.symm)]; exact q1.row, World.ownsRow_nil _ _ _ _, fun k hk => by cases hk⟩
  have hKF : Kept own w (((w2.setCell ⟨X, 3, none⟩ v2).setCells g 0 rowNew.toList).setCells w.heap.size 0 #[.string H.m, .string H.t, .string H.k, v2].toList) := by
    have t1 : Below w.heap.size w w2 := bstep (bstep HB0.out (by rw [hX]; exact HW2.out.1)) s4
    have t2 : Kept own w (w2.setCell ⟨X, 3, none⟩ v2) := (Kept.of_below (own := own) t1).setCell (.inr (by omega)) 3 v2
    exact (t2.setCells (.inl HG.out.2) _ 0).setCells (.inr (Nat.le_refl _)) _ 0
  have HFIN : Bx (Wat (((w2.setCell ⟨X, 3, none⟩ v2).setCells g 0 rowNew.toList).setCells w.heap.size 0 #[.string H.m, .string H.t, .string H.k, v2].toList) g (fun k => k = g) (.ok ws0) ∧ TakP own g (h.x b) w (((w2.setCell ⟨X, 3, none⟩ v2).setCells g 0 rowNew.toList).setCells w.heap.size 0 #[.string H.m, .string H.t, .string H.k, v2].toList) v2 (fun k => k = g)) := ⟨wat_new hBF, s1, hown, fun k hk => ⟨(hblk k hk).1, (hblk k hk).2.2.2⟩, ⟨hKF, fun k hk => .inl (hk ▸ HG.out.2)⟩⟩
  have HONE := Bx.mk (req_one H.m H.t H.k v2 hone)
  clear hone hXE hXn hXg hRg hs3 hX
  subst hv2
  clear hown hszF hBF hKF hblk q1 q2 q3 hX4 hR4 hRr3 hBk3 hK3 hX3 hBk2 hRr hXr s1 s2 s3 s4
  go_wp2_with (first
    | (refine wpList_store_mid rfl 75 (.tmp 28) (.tmp 27) rfl g 0 rowNew rfl rfl HQ3.out reader_info (by simp [Value.oneCell', rowNew]) ?_; generalize (w2.setCell ⟨X, 3, none⟩ (.slice va b.length vc)).setCells g 0 rowNew.toList = W3 at HX4 HTR HST HFIN ⊢; have HX5 := HX4; have HTR5 := HTR; clear HQ1 HQ2 HQ3 HX4 HTR)
    | (refine wpList_load_row rfl 26 (.tmp 4) rfl X rfl 26 #[.string H.m, .string H.t, .string H.k, (.slice va b.length vc)] (0, 0) _ HX5.out Tryz.underlying26 rfl req_info ?_)
    | (refine wpList_store_mid rfl 26 (.tmp 2) (.tmp 29) rfl w.heap.size 0 #[.string H.m, .string H.t, .string H.k, (.slice va b.length vc)] rfl rfl HTR5.out req_info HONE.out ?_))
  refine bodyPost_ret (v := .tuple #[.agg #[.string H.m, .string H.t, .string H.k, (.slice va b.length vc)], .bool true]) (results_rt rfl _ _ w.heap.size _ _ rfl rfl HST.out req_info) rfl ⟨.slice va b.length vc, fun k => k = g, ?_, HFIN.out⟩
  unfold reqV
  rw [HX.out.m, HX.out.t, HX.out.k]; rfl
end Go.Proofs.YtdameoejigpnhaaGreatDoor
