/- A new reader; what Take hands out; whether nothing came. What Whole answers. That anything is read at all. Whether two requests are the same; that anything is read at all. -/
import Derived.Test.YtpfijaojgeceeaaGreatDoorAuah
import Derived.Test.YtpfijaojgeceeaaGreatDoorReqV
import Derived.Test.YtpfijaojgeceeaaGreatDoorRqSame
import Derived.Test.YtpfijaojgeceeaaGreatDoorAuas
namespace Go.Proofs.YtpfijaojgeceeaaGreatDoor
open Go.RowKit
set_option linter.unusedVariables false

variable {g : Nat} {own : Nat → Prop}
def rowNew : Array Value := #[.int .i64 1, .int .i64 0, .slice none 0 0, .bool false, .string ⟨#[]⟩, .string ⟨#[]⟩, .string ⟨#[]⟩, .slice none 0 0, .int .i64 0, .bool false, .int .i64 0, .int .i64 0, .int .i64 0, .slice none 0 0, .pointer none]
set_option maxRecDepth 100000 in
theorem wat_new {w : World} {v : Value} {l : List Int} (h : Bk w g own rowNew v l) : Wat w g own (.ok ws0) :=
  ⟨[], .slice none 0 0, false, rfl, ⟨by decide, Nat.le_refl _, fun c hc => (by cases hc), fun _ => rfl, fun h => absurd rfl h, by decide, by decide⟩, Bk.nil h⟩
set_option maxHeartbeats 400000 in
theorem wnew_any (w : World) :
    Calls Tryz.prog 23 #[] w fun e w' => e = .returned (.pointer (some ⟨w.heap.size, 0, none⟩)) ∧ Wat w' w.heap.size (fun k => k = w.heap.size) (.ok ws0) ∧ Below w.heap.size w w' := by
  have HN : Bx (Bk (w.alloc (.cells rowNew 75)) w.heap.size (fun k => k = w.heap.size) rowNew (.slice none 0 0) []) := ⟨⟨Byt.nil, rfl, fun k hk => by rw [hk]; simp, heap_alloc_new w _, World.ownsRow_nil _ _ _ _, fun k hk => by cases hk⟩⟩
  have HB : Bx (Below w.heap.size w (w.alloc (.cells rowNew 75))) := ⟨(Below.refl _ _).alloc (Nat.le_refl _) _⟩
  go_enter Tryz.func23, Tryz.ntmps23
  go_wp2
  go_ret
  exact ⟨rfl, wat_new HN.out, HB.out⟩
set_option maxRecDepth 100000 in
set_option maxHeartbeats 1000000 in
theorem wtake_no (x : Int) (w : World) (hg : g < w.heap.size) (c0 : w.cell? ⟨g, 0, none⟩ = some (.int .i64 x)) (h0 : x ≠ 0) (h3 : x ≠ 3) :
    Calls Tryz.prog 25 #[.pointer (some ⟨g, 0, none⟩)] w fun e w' => e = .returned (.tuple #[.agg reqZ, .bool false]) ∧ Below w.heap.size w w' := by
  have hb0 : Below w.heap.size w (w.alloc (.cells reqZ 28)) := (Below.refl _ _).alloc (Nat.le_refl _) _
  have d0 : (w.alloc (.cells reqZ 28)).cell? ⟨g, 0, none⟩ = some (.int .i64 x) := (hb0.cell (p := ⟨g, 0, none⟩) hg).trans c0
  have C1 : Hid (Calls Tryz.prog 32 #[.pointer (some ⟨g, 0, none⟩)] (w.alloc (.cells reqZ 28)) fun e w' => e = .returned (.bool true) ∧ (w.alloc (.cells reqZ 28)) = w') := (wmade_yes x _ d0 h0).mono fun e w' h => ⟨h.1, h.2.symm⟩
  have HROW : Bx ((w.alloc (.cells reqZ 28)).heap[w.heap.size]? = some (.cells reqZ 28 (0, 0))) := ⟨heap_alloc_new w _⟩
  have HTH : Bx ((w.alloc (.cells reqZ 28)).there w.heap.size 0 4) := ⟨there_row HROW.out⟩
  have HST : Bx (((w.alloc (.cells reqZ 28)).setCells w.heap.size 0 reqZ.toList).heap[w.heap.size]? = some (.cells reqZ 28 (0, 0))) := ⟨heap_stored HROW.out rfl⟩
  have HBS : Bx (Below w.heap.size w ((w.alloc (.cells reqZ 28)).setCells w.heap.size 0 reqZ.toList)) := ⟨below_setCells hb0 _ (Nat.le_refl _) _ 0⟩
  have hx3 : (x != 3) = true := by simpa using h3
  clear hb0 c0 h0 h3
  generalize hw1 : w.alloc (.cells reqZ 28) = W1 at *
  unfold reqZ at hw1
  go_enter Tryz.func25, Tryz.ntmps25
  go_wp2_with fail
  refine C1.out.mono ?_
  rintro e w1 ⟨rfl, rfl⟩
  clear hw1
  go_wp2_with (refine wpList_store_mid rfl 28 (.tmp 2) (.tmp 15) rfl w.heap.size 0 reqZ rfl rfl HTH.out req_info (by simp [Value.oneCell', reqZ]) ?_)
  exact bodyPost_ret (v := .tuple #[.agg reqZ, .bool false]) (results_rt rfl _ _ w.heap.size reqZ _ rfl rfl HST.out req_info) rfl ⟨rfl, HBS.out⟩
/-- what the body says -/
def SaidP (own : Nat → Prop) (g : Nat) (b : List Int) (w w' : World) (v : Value) : Prop := Byt b ∧ w'.ownsRow 0 5 1 v b.length (bv b) ∧ (∀ k, v.ownBlock = some k → k ≠ g ∧ (own k ∨ (w.heap.size ≤ k))) ∧ Below w.heap.size w w'
set_option maxRecDepth 100000 in
set_option maxHeartbeats 1000000 in
theorem wsaid_fix (H : HM) (lf x : Int) (body : List Int) (w : World) (h : FixM w g own x H lf body) :
    Calls Tryz.prog 36 #[.pointer (some ⟨g, 12, none⟩)] w fun e w' => ∃ v, e = .returned v ∧ SaidP own g body w w' v := by
  obtain ⟨CV, hB⟩ := h
  have c13 : w.cell? ⟨g, 13, none⟩ = some CV := hB.cell 13
  have c14 : w.cell? ⟨g, 14, none⟩ = some (.pointer none) := hB.cell 14
  have HP : Bx (SaidP own g body w w CV) := ⟨hB.byt, hB.vr, fun k hk => ⟨hB.ne hk, .inl (hB.ov k hk)⟩, Below.refl _ _⟩
  clear hB
  go_enter Tryz.func36, Tryz.ntmps36
  go_wp2
  go_ret
  exact ⟨_, rfl, HP.out⟩
set_option maxRecDepth 100000 in
set_option maxHeartbeats 1000000 in
theorem wsaid_chk (H : HM) (x : Int) (c : CS) (w : World) (h : ChkM w g own x H c) :
    Calls Tryz.prog 36 #[.pointer (some ⟨g, 12, none⟩)] w fun e w' => ∃ v, e = .returned v ∧ SaidP own g c.body w w' v := by
  obtain ⟨g2, own2, hB, hR, hs⟩ := h
  have c14 : w.cell? ⟨g, 14, none⟩ = some (.pointer (some ⟨g2, 0, none⟩)) := hB.cell 14
  have HR := Bx.mk hR
  have HG : Bx (g < w.heap.size) := ⟨hB.lt g hB.og⟩
  clear hB hR hs
  go_enter Tryz.func36, Tryz.ntmps36
  go_wp2_with fail
  refine (cbody_any g2 own2 2048 c _ HR.out).mono ?_
  rintro e w1 ⟨v, rfl, ho, hb⟩
  have HP : Bx (SaidP own g c.body w w1 v) := ⟨HR.out.1.byt, owns_base ho (Nat.zero_le _), fun k hk => by
    rcases ho.2 with ⟨rfl, _⟩ | ⟨g', cap, cur, rfl, hg', _⟩
    · cases hk
    · obtain rfl : g' = k := by simpa [Value.ownBlock] using hk
      exact ⟨by have := HG.out; omega, .inr hg'⟩, hb⟩
  clear ho hb
  go_wp2
  go_ret
  exact ⟨_, rfl, HP.out⟩
/-- what Take hands out -/
def TakP (own : Nat → Prop) (g : Nat) (x : WX) (w w' : World) (v : Value) (own' : Nat → Prop) : Prop :=
  Byt x.b ∧ w'.ownsRow 0 5 1 v x.b.length (bv x.b) ∧ (∀ k, v.ownBlock = some k → ¬ own' k ∧ (own k ∨ w.heap.size ≤ k)) ∧ Did own w w' own'
set_option maxRecDepth 100000 in
set_option maxHeartbeats 2000000 in
theorem wtake_yes (H : HM) (h : HD) (lf : Int) (CV PV : Value) (v : Value) (l : List Int) (b : List Int) (w : World) (hx : Hx H h) (hB : Bk w g own (rowH 3 H lf CV PV) v l) (hS : ∀ w0, Below w.heap.size w w0 → Calls Tryz.prog 36 #[.pointer (some ⟨g, 12, none⟩)] w0 fun e w' => ∃ v, e = .returned v ∧ SaidP own g b w0 w' v) :
    Calls Tryz.prog 25 #[.pointer (some ⟨g, 0, none⟩)] w fun e w' => ∃ v own', e = .returned (.tuple #[reqV (h.x b) v, .bool true]) ∧ Wat w' g own' (.ok ws0) ∧ TakP own g (h.x b) w w' v own' := by
  have hb0 : Below w.heap.size w (w.alloc (.cells reqZ 28)) := (Below.refl _ _).alloc (Nat.le_refl _) _
  have hB0 := hB.below hb0
  have d0 : (w.alloc (.cells reqZ 28)).cell? ⟨g, 0, none⟩ = some (.int .i64 3) := hB0.cell 0
  have d4 : (w.alloc (.cells reqZ 28)).cell? ⟨g, 4, none⟩ = some (.string H.m) := hB0.cell 4
  have d5 : (w.alloc (.cells reqZ 28)).cell? ⟨g, 5, none⟩ = some (.string H.t) := hB0.cell 5
  have d6 : (w.alloc (.cells reqZ 28)).cell? ⟨g, 6, none⟩ = some (.string H.k) := hB0.cell 6
  have d7 : (w.alloc (.cells reqZ 28)).cell? ⟨g, 7, none⟩ = some (.slice none 0 0) := hB0.cell 7
  have C1 : Hid (Calls Tryz.prog 32 #[.pointer (some ⟨g, 0, none⟩)] (w.alloc (.cells reqZ 28)) fun e w' => e = .returned (.bool true) ∧ (w.alloc (.cells reqZ 28)) = w') := (wmade_yes 3 _ d0 (by decide)).mono fun e w' h => ⟨h.1, h.2.symm⟩
  have HROW : Bx ((w.alloc (.cells reqZ 28)).heap[w.heap.size]? = some (.cells reqZ 28 (0, 0))) := ⟨heap_alloc_new w _⟩
  have HRNG : Bx ((w.alloc (.cells reqZ 28)).rangeAt g 4 [.string H.m, .string H.t, .string H.k, .slice none 0 0]) := ⟨by
    intro j z hj
    match j, hj with
    | 0, hj => cases hj; exact d4
    | 1, hj => cases hj; exact d5
    | 2, hj => cases hj; exact d6
    | 3, hj => cases hj; exact d7
    | (n + 4), hj => simp at hj⟩
  have HB0 := Bx.mk hb0
  have HBK0 := Bx.mk hB0
  have HX := Bx.mk hx
  have HS := Bx.mk hS
  have HG : Bx (g < w.heap.size ∧ own g) := ⟨hB.lt g hB.og, hB.og⟩
  have HOL : Bx (∀ k, own k → k < w.heap.size) := ⟨hB.lt⟩
  clear hb0 hB0 hB hS hx d4 d5 d6 d7
  have hsz1 : (w.alloc (.cells reqZ 28)).heap.size = w.heap.size + 1 := by simp
  have HSZ1 := Bx.mk hsz1
  clear hsz1
  generalize hw1 : w.alloc (.cells reqZ 28) = W1 at *
  obtain ⟨W2, hw2⟩ : ∃ W2, W1.alloc (.cells #[.string H.m, .string H.t, .string H.k, .slice none 0 0] 28) = W2 := ⟨_, rfl⟩
  have HW2 : Bx (Below W1.heap.size W1 W2 ∧ W2.heap.size = W1.heap.size + 1 ∧ W2.heap[W1.heap.size]? = some (.cells #[.string H.m, .string H.t, .string H.k, .slice none 0 0] 28 (0, 0))) := ⟨by
    rw [← hw2]
    exact ⟨(Below.refl _ _).alloc (Nat.le_refl _) _, by simp, heap_alloc_new W1 _⟩⟩
  have HW2E := Bx.mk hw2
  clear hw2
  unfold reqZ at hw1
  go_enter Tryz.func25, Tryz.ntmps25
  go_wp2_with fail
  refine C1.out.mono ?_
  rintro e w1 ⟨rfl, rfl⟩
  clear hw1 C1
  go_wp2_with (refine wpList_load_mid rfl 28 (.tmp 19) rfl g 4 rfl [.string H.m, .string H.t, .string H.k, .slice none 0 0] _ HRNG.out Tryz.underlying28 rfl req_info ?_)
  rw [HW2E.out]
  refine (HS.out W2 (bstep HB0.out HW2.out.1)).mono ?_
  rintro e w2 ⟨v2, rfl, hsd⟩
  generalize hX : W1.heap.size = X at *
  have hXE : X = w.heap.size + 1 := by rw [← HSZ1.out]
  obtain ⟨s1, s2, s3, s4⟩ := hsd
  obtain ⟨va, vc, hv2⟩ := own_sl s2
  have hXr : w2.heap[X]? = some (.cells #[.string H.m, .string H.t, .string H.k, .slice none 0 0] 28 (0, 0)) := by rw [s4.block X (by rw [HW2.out.2.1]; omega)]; exact HW2.out.2.2
  have hRr : w2.heap[w.heap.size]? = some (.cells reqZ 28 (0, 0)) := by rw [s4.block _ (by rw [HW2.out.2.1]; omega), HW2.out.1.block _ (by omega)]; exact HROW.out
  have hBk2 : Bk w2 g own (rowH 3 H lf CV PV) v l := (HBK0.out.below (by rw [hX]; exact HW2.out.1)).below s4
  have hXn : ¬ own X := fun ho => by have := HOL.out X ho; omega
  have hXg : X ≠ g := fun e => by have := HG.out.1; omega
  have hRg : w.heap.size ≠ g := fun e => by have := HG.out.1; omega
  have k3 : w2.cell? ⟨X, 3, none⟩ = some (.slice none 0 0) := by rw [cell_of_row w2 X 3 _ _ (0, 0) hXr]; rfl
  have f3 : w2.frozen? ⟨X, 3, none⟩ = false := frozen_of_row _ _ 3 _ _ hXr
  have hX3 : (w2.setCell ⟨X, 3, none⟩ v2).heap[X]? = some (.cells #[.string H.m, .string H.t, .string H.k, v2] 28 (0, 0)) := heap_setCell_same w2 X 3 _ _ _ hXr
  have hK3 : Kept (fun k => k = X) w2 (w2.setCell ⟨X, 3, none⟩ v2) := (Kept.refl (fun k => k = X) w2).setCell (g := X) (.inl rfl) 3 v2
  have hBk3 : Bk (w2.setCell ⟨X, 3, none⟩ v2) g own (rowH 3 H lf CV PV) v l := hBk2.keptO hK3 (fun k hk e => hXn (e ▸ hk))
  obtain ⟨q1, q2, q3⟩ := hBk3.store rowNew rfl
  have hRr3 : (w2.setCell ⟨X, 3, none⟩ v2).heap[w.heap.size]? = some (.cells reqZ 28 (0, 0)) := by rw [hK3.block w.heap.size (by have := s4.size; have := HW2.out.2.1; omega) (by omega)]; exact hRr
  have hs3 : (w2.setCell ⟨X, 3, none⟩ v2).heap.size = w2.heap.size := by simp [World.setCell]
  have hX4 : ((w2.setCell ⟨X, 3, none⟩ v2).setCells g 0 rowNew.toList).heap[X]? = some (.cells #[.string H.m, .string H.t, .string H.k, v2] 28 (0, 0)) := by rw [setCells_other hXg]; exact hX3
  have hR4 : ((w2.setCell ⟨X, 3, none⟩ v2).setCells g 0 rowNew.toList).heap[w.heap.size]? = some (.cells reqZ 28 (0, 0)) := by rw [setCells_other hRg]; exact hRr3
  have HX4 := Bx.mk hX4
  have HTR : Bx (((w2.setCell ⟨X, 3, none⟩ v2).setCells g 0 rowNew.toList).there w.heap.size 0 4) := ⟨there_row hR4⟩
  have HST : Bx ((((w2.setCell ⟨X, 3, none⟩ v2).setCells g 0 rowNew.toList).setCells w.heap.size 0 #[.string H.m, .string H.t, .string H.k, v2].toList).heap[w.heap.size]? = some (.cells #[.string H.m, .string H.t, .string H.k, v2] 28 (0, 0))) := ⟨heap_stored hR4 rfl⟩
  have HQ1 := Bx.mk q1
  have HQ2 := Bx.mk q2
  have HQ3 := Bx.mk q3
  have hone : v2.oneCell' = true := by rcases s2.2 with ⟨rfl, _⟩ | ⟨g', cap, cur, rfl, _⟩ <;> rfl
  -- what is handed out lies apart
  have hblk : ∀ k, v2.ownBlock = some k → k ≠ g ∧ k ≠ X ∧ k ≠ w.heap.size ∧ (own k ∨ w.heap.size ≤ k) := fun k hk => by
    obtain ⟨r1, r2⟩ := s3 k hk
    rcases r2 with r2 | r2
    · have := HOL.out k r2; exact ⟨r1, by omega, by omega, .inl r2⟩
    · rw [HW2.out.2.1] at r2; exact ⟨r1, by omega, by omega, .inr (by omega)⟩
  have hown : (((w2.setCell ⟨X, 3, none⟩ v2).setCells g 0 rowNew.toList).setCells w.heap.size 0 #[.string H.m, .string H.t, .string H.k, v2].toList).ownsRow 0 5 1 v2 b.length (bv b) := by
    refine owns_setCells (owns_setCells (owns_setCells (vs := [v2]) (o := 3) s2 ?_) ?_) ?_
    · exact fun k hk => (hblk k hk).2.1
    · exact fun k hk => (hblk k hk).1
    · exact fun k hk => (hblk k hk).2.2.1
  have hszF : (((w2.setCell ⟨X, 3, none⟩ v2).setCells g 0 rowNew.toList).setCells w.heap.size 0 #[.string H.m, .string H.t, .string H.k, v2].toList).heap.size = w2.heap.size := by rw [setCells_size, setCells_size, hs3]
  have hBF : Bk (((w2.setCell ⟨X, 3, none⟩ v2).setCells g 0 rowNew.toList).setCells w.heap.size 0 #[.string H.m, .string H.t, .string H.k, v2].toList) g (fun k => k = g) rowNew (.slice none 0 0) [] := ⟨Byt.nil, rfl, fun k hk => by rw [hk, hszF]; exact hBk2.lt g HG.out.2, by rw [setCells_other (fun e => hRg e.symm)]; exact q1.row, World.ownsRow_nil _ _ _ _, fun k hk => by cases hk⟩
  have hKF : Kept own w (((w2.setCell ⟨X, 3, none⟩ v2).setCells g 0 rowNew.toList).setCells w.heap.size 0 #[.string H.m, .string H.t, .string H.k, v2].toList) := by
    have t1 : Below w.heap.size w w2 := bstep (bstep HB0.out (by rw [hX]; exact HW2.out.1)) s4
    have t2 : Kept own w (w2.setCell ⟨X, 3, none⟩ v2) := (Kept.of_below (own := own) t1).setCell (.inr (by omega)) 3 v2
    exact (t2.setCells (.inl HG.out.2) _ 0).setCells (.inr (Nat.le_refl _)) _ 0
  have HFIN : Bx (Wat (((w2.setCell ⟨X, 3, none⟩ v2).setCells g 0 rowNew.toList).setCells w.heap.size 0 #[.string H.m, .string H.t, .string H.k, v2].toList) g (fun k => k = g) (.ok ws0) ∧ TakP own g (h.x b) w (((w2.setCell ⟨X, 3, none⟩ v2).setCells g 0 rowNew.toList).setCells w.heap.size 0 #[.string H.m, .string H.t, .string H.k, v2].toList) v2 (fun k => k = g)) := ⟨wat_new hBF, s1, hown, fun k hk => ⟨(hblk k hk).1, (hblk k hk).2.2.2⟩, ⟨hKF, fun k hk => .inl (hk ▸ HG.out.2)⟩⟩
  have HONE := Bx.mk (req_one H.m H.t H.k v2 hone)
  clear hone hXE hXn hXg hRg hs3 hX
  subst hv2
  clear hown hszF hBF hKF hblk q1 q2 q3 hX4 hR4 hRr3 hBk3 hK3 hX3 hBk2 hRr hXr s1 s2 s3 s4
  go_wp2_with (first
    | (refine wpList_store_mid rfl 75 (.tmp 28) (.tmp 27) rfl g 0 rowNew rfl rfl HQ3.out reader_info (by simp [Value.oneCell', rowNew]) ?_; generalize (w2.setCell ⟨X, 3, none⟩ (.slice va b.length vc)).setCells g 0 rowNew.toList = W3 at HX4 HTR HST HFIN ⊢; have HX5 := HX4; have HTR5 := HTR; clear HQ1 HQ2 HQ3 HX4 HTR)
    | (refine wpList_load_row rfl 28 (.tmp 4) rfl X rfl 28 #[.string H.m, .string H.t, .string H.k, (.slice va b.length vc)] (0, 0) _ HX5.out Tryz.underlying28 rfl req_info ?_)
    | (refine wpList_store_mid rfl 28 (.tmp 2) (.tmp 29) rfl w.heap.size 0 #[.string H.m, .string H.t, .string H.k, (.slice va b.length vc)] rfl rfl HTR5.out req_info HONE.out ?_))
  refine bodyPost_ret (v := .tuple #[.agg #[.string H.m, .string H.t, .string H.k, (.slice va b.length vc)], .bool true]) (results_rt rfl _ _ w.heap.size _ _ rfl rfl HST.out req_info) rfl ⟨.slice va b.length vc, fun k => k = g, ?_, HFIN.out⟩
  unfold reqV
  rw [HX.out.m, HX.out.t, HX.out.k]; rfl
end Go.Proofs.YtpfijaojgeceeaaGreatDoor
namespace Go.Proofs.YtpfijaojgeceeaaGreatDoor
open Go.RowKit
set_option linter.unusedVariables false

variable {g : Nat} {own : Nat → Prop}
set_option maxRecDepth 100000 in
theorem wat_keep {w w' : World} (hb : ∀ k, own k → w'.heap[k]? = w.heap[k]?) (hs : w.heap.size ≤ w'.heap.size) : ∀ {r : WR}, Wat w g own r → Wat w' g own r
  | .ok (.head h lines cntT cur), ⟨line, LV, cr, h1, hi, hm⟩ => ⟨line, LV, cr, h1, hi, Bk.keep hm hb hs⟩
  | .ok (.fix h left body), ⟨H, hx, h1, h2, CV, hB⟩ => ⟨H, hx, h1, h2, CV, hB.keep hb hs⟩
  | .ok (.chk h c), ⟨H, hx, h1, g2, own2, hB, hR, h2⟩ => ⟨H, hx, h1, g2, own2, hB.keep hb hs, hR.keep (fun k hk => hb k (h2 k hk).1) hs, h2⟩
  | .ok (.done x), ⟨H, h, hx, hh⟩ => by
    rcases hh with ⟨body, h1, h2, CV, hB⟩ | ⟨c, h1, g2, own2, hB, hR, h2⟩
    · exact ⟨H, h, hx, .inl ⟨body, h1, h2, CV, hB.keep hb hs⟩⟩
    · exact ⟨H, h, hx, .inr ⟨c, h1, g2, own2, hB.keep hb hs, hR.keep (fun k hk => hb k (h2 k hk).1) hs, h2⟩⟩
  | .bad, hB => Bk.keep hB hb hs
set_option maxRecDepth 100000 in
theorem wat_below {w w' : World} {r : WR} (h : Wat w g own r) (hb : Below w.heap.size w w') : Wat w' g own r := wat_keep (fun k hk => hb.block k ((wat_own h).2 k hk)) hb.size h
set_option maxRecDepth 100000 in
theorem wtake_any (r : WR) (w : World) (h : Wat w g own r) :
    Calls Tryz.prog 25 #[.pointer (some ⟨g, 0, none⟩)] w fun e w' => ∃ v own', e = .returned (.tuple #[reqV (tkX r) v, .bool (tkB r)]) ∧ Wat w' g own' (tkS r) ∧ TakP own g (tkX r) w w' v own' := by
  have NO : ∀ (x : Int) (c0 : w.cell? ⟨g, 0, none⟩ = some (.int .i64 x)) (h0 : x ≠ 0) (h3 : x ≠ 3) (hX : tkX r = wx0) (hB : tkB r = false) (hS : tkS r = r), Calls Tryz.prog 25 #[.pointer (some ⟨g, 0, none⟩)] w fun e w' => ∃ v own', e = .returned (.tuple #[reqV (tkX r) v, .bool (tkB r)]) ∧ Wat w' g own' (tkS r) ∧ TakP own g (tkX r) w w' v own' := by
    intro x c0 h0 h3 hX hB hS
    refine (wtake_no x w ((wat_own h).2 g (wat_own h).1) c0 h0 h3).mono ?_
    rintro e w' ⟨rfl, hb⟩
    rw [hX, hB, hS]
    exact ⟨.slice none 0 0, own, rfl, wat_below h hb, Byt.nil, World.ownsRow_nil _ _ _ _, fun k hk => (by cases hk), Did.same (Kept.of_below hb)⟩
  match r, h with
  | .ok (.head h lines cntT cur), ⟨line, LV, cr, _, _, hm⟩ => exact NO 1 hm.c0 (by decide) (by decide) rfl rfl rfl
  | .ok (.fix h left body), ⟨H, _, _, _, CV, hB⟩ => exact NO 2 (hB.cell 0) (by decide) (by decide) rfl rfl rfl
  | .ok (.chk h c), ⟨H, _, _, g2, own2, hB, _⟩ => exact NO 2 (hB.cell 0) (by decide) (by decide) rfl rfl rfl
  | .bad, hB => exact NO 4 (Bk.cell hB 0) (by decide) (by decide) rfl rfl rfl
  | .ok (.done x), ⟨H, h, hx, hh⟩ =>
    rcases hh with ⟨body, rfl, h2, CV, hB⟩ | ⟨c, rfl, g2, own2, hB, hR, h2⟩
    · exact wtake_yes H h 0 CV (.pointer none) CV body body w hx hB (fun w0 hb => wsaid_fix H 0 3 body w0 ⟨CV, hB.below hb⟩)
    · exact wtake_yes H h 0 (.slice none 0 0) (.pointer (some ⟨g2, 0, none⟩)) (.slice none 0 0) [] c.body w hx hB (fun w0 hb => wsaid_chk H 3 c w0 ⟨g2, own2, hB.below hb, hR.below hb, h2⟩)
set_option maxRecDepth 100000 in
theorem results_rtt {fn : Func} {s u p : Tmp} (h : fn.results = #[.cell p 28, .tmp s, .tmp u]) (tmps : Array Value) (w : World) (g : Nat) (cs : Array Value) (v v2 : Value)
    (hs : tmps.getD s undef = v) (hu : tmps.getD u undef = v2) (hp : tmps.getD p undef = .pointer (some ⟨g, 0, none⟩)) (hg : w.heap[g]? = some (.cells cs 28 (0, 0))) (hi : (Tryz.prog.info? 28).map (·.size) = some cs.size) :
    (results fn tmps).run Tryz.prog w = .ok (.tuple #[.agg cs, v, v2]) w := by
  have hp' : tmps[p]?.getD undef = .pointer (some ⟨g, 0, none⟩) := by simpa using hp
  have hs' : tmps[s]?.getD undef = v := by simpa using hs
  have hu' : tmps[u]?.getD undef = v2 := by simpa using hu
  simp [results, h, hp', hs', hu', asAddr, run_loadVar_row w g 28 28 cs (0, 0) _ hg Tryz.underlying28 rfl hi]
/-- the state of the loop -/
structure QL (w wr : World) (g : Nat) (own : Nat → Prop) (s : WS) (l : List Int) (k : Nat) (T : WX × Nat × Int) : Prop where
  wat : Wat wr g own (.ok s)
  low : ∀ j, own j → w.heap.size + 1 ≤ j
  bel : Below w.heap.size w wr
  res : wr.heap[w.heap.size]? = some (.cells reqZ 28 (0, 0))
  run : runQ wp0 s (l.drop k) k = T
  ov : s.over = false
/-- what Whole answers -/
def WhP (T : WX × Nat × Int) (w : World) (e : Ending) (w' : World) : Prop := ∃ v, e = .returned (.tuple #[reqV T.1 v, .int .i64 (T.2.1 : Int), .int .i64 T.2.2]) ∧ Byt T.1.b ∧ w'.ownsRow w.heap.size 5 1 v T.1.b.length (bv T.1.b) ∧ Below w.heap.size w w'
set_option maxRecDepth 100000 in
/-- the answer's place is written -/
theorem ans_put {w wr : World} (hr : wr.heap[w.heap.size]? = some (.cells reqZ 28 (0, 0))) (hb : Below w.heap.size w wr) (cs : Array Value) (hc : cs.size = 4) :
    wr.there w.heap.size 0 4 ∧ (wr.setCells w.heap.size 0 cs.toList).heap[w.heap.size]? = some (.cells cs 28 (0, 0)) ∧ Below w.heap.size w (wr.setCells w.heap.size 0 cs.toList) :=
  ⟨there_row hr, heap_stored hr hc, below_setCells hb _ (Nat.le_refl _) _ 0⟩
set_option maxRecDepth 100000 in
set_option maxHeartbeats 2000000 in
theorem wwhole_any (a : Option Addr) (len cap : Nat) (l : List Int) (w : World) (h : Bts w a len cap l) (he : Env w.heap.size w) :
    Calls Tryz.prog 12 #[.slice a len cap] w (WhP (runQ wp0 ws0 l 0) w) := by
  have hl : Hid (l.length = len) := h.len_eq
  have hmx := Nat.le_trans h.le_cap h.cap_le
  unfold maxLen at hmx
  have HBY : Hid (Byt l) := h.byt
  have H := Bx.mk h
  have HE := Bx.mk he
  have HV : Bx (runQ wp0 ws0 l 0 = runQ wp0 ws0 l 0) := ⟨rfl⟩
  generalize hT : runQ wp0 ws0 l 0 = T
  have HT := Bx.mk hT
  clear h he hT HV
  have hb0 : Below w.heap.size w (w.alloc (.cells reqZ 28)) := (Below.refl _ _).alloc (Nat.le_refl _) _
  have HB0 := Bx.mk hb0
  have HROW : Bx ((w.alloc (.cells reqZ 28)).heap[w.heap.size]? = some (.cells reqZ 28 (0, 0))) := ⟨heap_alloc_new w _⟩
  have HSZ : Bx ((w.alloc (.cells reqZ 28)).heap.size = w.heap.size + 1) := ⟨by simp⟩
  have C1 : Hid (Calls Tryz.prog 23 #[] (w.alloc (.cells reqZ 28)) fun e w' => e = .returned (.pointer (some ⟨(w.alloc (.cells reqZ 28)).heap.size, 0, none⟩)) ∧ Wat w' (w.alloc (.cells reqZ 28)).heap.size (fun k => k = (w.alloc (.cells reqZ 28)).heap.size) (.ok ws0) ∧ Below (w.alloc (.cells reqZ 28)).heap.size (w.alloc (.cells reqZ 28)) w') := wnew_any _
  clear hb0
  generalize hw1 : w.alloc (.cells reqZ 28) = W1 at *
  unfold reqZ at hw1
  go_enter Tryz.func12, Tryz.ntmps12
  go_wp2_with fail
  refine C1.out.mono ?_
  rintro e w1 ⟨rfl, hw, hb1⟩
  generalize hg : W1.heap.size = g at hw ⊢
  have HQ0 : Bx (QL w w1 g (fun k => k = g) ws0 l 0 T) := ⟨hw, fun k hk => by rw [hk, ← hg, HSZ.out]; exact Nat.le_refl _, bstep HB0.out hb1, by rw [hb1.block w.heap.size (by rw [HSZ.out]; omega)]; exact HROW.out, HT.out, rfl⟩
  clear hw hb1 hg hw1 C1
  go_wp2
  go_loopw [15] (fun i wr => ∃ (k : Nat) (own : Nat → Prop) (s : WS), k ≤ len ∧ i = .int .i64 k ∧ Bx (QL w wr g own s l k T)) (fun i _ => len - (intOf i).toNat)
  case atStart => exact ⟨0, _, _, Nat.zero_le _, rfl, HQ0⟩
  case round =>
    clear HQ0
    obtain ⟨k, own, s, hk, rfl, HS⟩ := hrel
    by_cases hlt : k < len
    · have hkI : (k : Int) < (len : Int) := by omega
      have hbt := H.out.below HS.out.bel
      obtain ⟨b, off, rfl, _, hc⟩ := hbt.spot (by omega)
      have hcell := hc k hlt
      have hbd := HBY.out.getD k
      have HR : Bx (runQ wp0 s (l.getD k 0 :: l.drop (k + 1)) k = T) := ⟨by rw [← drop_head l k (by rw [hl.out]; exact hlt)]; exact HS.out.run⟩
      generalize l.getD k 0 = C at hcell hbd HR
      clear hc hbt
      go_wp2_with fail
      refine (wput_any w.heap.size (.ok s) C _ HS.out.wat hbd (HE.out.below HS.out.bel) HS.out.bel.size (fun j hj => by have := HS.out.low j hj; omega)).mono ?_
      rintro e w2 ⟨rfl, own2, hw2, hd2⟩
      have HB2 : Bx (Below w.heap.size w w2) := ⟨HS.out.bel.trans (hd2.kept.low (fun j hj => by have := HS.out.low j hj; omega) HS.out.bel.size)⟩
      have HL2 : Bx (∀ j, own2 j → w.heap.size + 1 ≤ j) := ⟨fun j hj => by
        rcases hd2.new j hj with h1 | h1
        · exact HS.out.low j h1
        · have h2 := (Array.getElem?_eq_some_iff.1 HS.out.res).1; omega⟩
      have HR2 : Bx (w2.heap[w.heap.size]? = some (.cells reqZ 28 (0, 0))) := ⟨by
        rw [hd2.kept.block w.heap.size (Array.getElem?_eq_some_iff.1 HS.out.res).1 (fun ho => by have := HS.out.low _ ho; omega)]; exact HS.out.res⟩
      have hov := HS.out.ov
      have PS : puS wp0 (.ok s) C = if (wst wp0 s C).2 ≠ 0 then .bad else .ok (wst wp0 s C).1 := by
        show (if s.over = true then _ else _) = _
        rw [if_neg (by rw [hov]; decide)]
      have PD : puD wp0 (.ok s) C = decide ((wst wp0 s C).2 = 0 ∧ (wst wp0 s C).1.over = true) := decide_eq_decide.2 ⟨fun h => h.2, fun h => ⟨hov, h⟩⟩
      have PE : puE wp0 (.ok s) C = (wst wp0 s C).2 := rfl
      have HR3 : Bx ((if (wst wp0 s C).2 ≠ 0 then (wx0, 0, (wst wp0 s C).2) else runQ wp0 (wst wp0 s C).1 (l.drop (k + 1)) (k + 1)) = T) := ⟨by rw [← runQ_cons wp0 hov]; exact HR.out⟩
      rw [PS] at hw2
      rw [PD, PE]
      clear PS PD PE hov HR hd2
      generalize wst wp0 s C = ST at *
      obtain ⟨S2, E⟩ := ST
      simp only at HR3 hw2 ⊢
      by_cases h0 : E = 0
      · subst h0
        rw [if_neg (by simp)] at hw2 HR3
        cases hov2 : S2.over with
        | true =>
          obtain ⟨x, rfl⟩ : ∃ x, S2 = .done x := by
            cases S2 with
            | done x => exact ⟨x, rfl⟩
            | head _ _ _ _ => cases hov2
            | fix _ _ _ => cases hov2
            | chk _ _ => cases hov2
          have HT2 : Bx (T = (x, k + 1, 0)) := ⟨by rw [← HR3.out, runQ_done]⟩
          have HW2 := Bx.mk hw2
          clear hw2 HR3 hov2
          rw [show decide ((0 : Int) = 0 ∧ true = true) = true from by decide]
          go_wp2_with fail
          refine (wtake_any (.ok (.done x)) _ HW2.out).mono ?_
          rintro e w3 ⟨v3, own3, rfl, _, ht1, ht2, ht3, ht4⟩
          obtain ⟨va, vc, hv3⟩ := own_sl ht2
          have HB3 : Bx (Below w.heap.size w w3) := ⟨HB2.out.trans (ht4.kept.low (fun j hj => by have := HL2.out j hj; omega) HB2.out.size)⟩
          have hr3 : w3.heap[w.heap.size]? = some (.cells reqZ 28 (0, 0)) := by
            rw [ht4.kept.block w.heap.size (Array.getElem?_eq_some_iff.1 HR2.out).1 (fun ho => by have := HL2.out _ ho; omega)]; exact HR2.out
          subst hv3
          have hone := req_one x.m x.t x.k (.slice va x.b.length vc) rfl
          have HONE := Bx.mk hone
          have hb4 : Below w3.heap.size w3 (w3.alloc (.cells #[.string x.m, .string x.t, .string x.k, .slice va x.b.length vc] 28)) := (Below.refl _ _).alloc (Nat.le_refl _) _
          have HY : Bx ((w3.alloc (.cells #[.string x.m, .string x.t, .string x.k, .slice va x.b.length vc] 28)).heap[w3.heap.size]? = some (.cells #[.string x.m, .string x.t, .string x.k, .slice va x.b.length vc] 28 (0, 0))) := ⟨heap_alloc_new w3 _⟩
          have hr4 : (w3.alloc (.cells #[.string x.m, .string x.t, .string x.k, .slice va x.b.length vc] 28)).heap[w.heap.size]? = some (.cells reqZ 28 (0, 0)) := by
            rw [hb4.block w.heap.size (Array.getElem?_eq_some_iff.1 hr3).1]; exact hr3
          obtain ⟨q1, q2, q3⟩ := ans_put hr4 (bstep HB3.out hb4) #[.string x.m, .string x.t, .string x.k, .slice va x.b.length vc] rfl
          have HOWN : Bx (((w3.alloc (.cells #[.string x.m, .string x.t, .string x.k, .slice va x.b.length vc] 28)).setCells w.heap.size 0 #[.string x.m, .string x.t, .string x.k, .slice va x.b.length vc].toList).ownsRow w.heap.size 5 1 (.slice va x.b.length vc) x.b.length (bv x.b)) := ⟨by
            have hh : ∀ j, (Value.slice va x.b.length vc).ownBlock = some j → w.heap.size < j := fun j hj => by
              have hz := (Array.getElem?_eq_some_iff.1 HR2.out).1
              rcases (ht3 j hj).2 with h1 | h1
              · have := HL2.out j h1; omega
              · omega
            have h5 : w3.ownsRow w.heap.size 5 1 (.slice va x.b.length vc) x.b.length (bv x.b) := by
              refine ⟨ht2.1, ?_⟩
              rcases ht2.2 with h1 | ⟨g', cap', cur, hv, _, r⟩
              · exact .inl h1
              · exact .inr ⟨g', cap', cur, hv, by have := hh g' ((congrArg Value.ownBlock hv).trans rfl); omega, r⟩
            exact owns_setCells (owns_below h5 hb4) (fun j hj => by have := hh j hj; omega)⟩
          have HQ1 := Bx.mk q1
          have HQ2 := Bx.mk q2
          have HQ3 := Bx.mk q3
          have HBT := Bx.mk ht1
          obtain ⟨W4, hW4⟩ : ∃ W4, w3.alloc (.cells #[.string x.m, .string x.t, .string x.k, .slice va x.b.length vc] 28) = W4 := ⟨_, rfl⟩
          rw [hW4] at HY HOWN HQ1 HQ2 HQ3
          have HW4 := Bx.mk hW4
          clear hone hb4 hr3 hr4 q1 q2 q3 ht1 ht2 ht3 ht4 HB2 HL2 HR2 hW4
          unfold reqV tkX tkB
          simp only
          go_wp2_with (first
            | (rw [HW4.out]; have HY5 := HY; have HQ5 := HQ1; clear HW4)
            | (refine wpList_load_row rfl 28 (.tmp 10) rfl w3.heap.size rfl 28 #[.string x.m, .string x.t, .string x.k, .slice va x.b.length vc] (0, 0) _ HY5.out Tryz.underlying28 rfl req_info ?_)
            | (refine wpList_store_mid rfl 28 (.tmp 2) (.tmp 36) rfl w.heap.size 0 #[.string x.m, .string x.t, .string x.k, .slice va x.b.length vc] rfl rfl HQ5.out req_info HONE.out ?_))
          refine bodyPost_ret (v := .tuple #[.agg #[.string x.m, .string x.t, .string x.k, .slice va x.b.length vc], .int .i64 ((k : Int) + 1), .int .i64 0]) (results_rtt rfl _ _ w.heap.size _ _ _ rfl rfl rfl HQ2.out req_info) rfl ⟨.slice va x.b.length vc, ?_, ?_⟩
          · rw [HT2.out]; rfl
          · rw [HT2.out]; exact ⟨HBT.out, HOWN.out, HQ3.out⟩
        | false =>
          rw [show decide ((0 : Int) = 0 ∧ false = true) = false from by decide]
          have HQ : Bx (QL w w2 g own2 S2 l (k + 1) T) := ⟨hw2, HL2.out, HB2.out, HR2.out, HR3.out, hov2⟩
          clear hw2 HR3 hov2
          go_wp2
          go_roundw
          case rel => exact ⟨k + 1, own2, S2, by omega, by go_num, HQ⟩
          case measure => simp [intOf]; omega
      · have hne : (E != 0) = true := by simpa using h0
        have HT2 : Bx (T = (wx0, 0, E)) := ⟨by rw [← HR3.out, if_pos h0]⟩
        obtain ⟨q1, q2, q3⟩ := ans_put HR2.out HB2.out reqZ rfl
        have HQ1 := Bx.mk q1
        have HQ2 := Bx.mk q2
        have HQ3 := Bx.mk q3
        generalize decide (E = 0 ∧ S2.over = true) = DD
        clear hw2 HR3 h0 q1 q2 q3
        go_wp2_with (refine wpList_store_mid rfl 28 (.tmp 2) (.tmp 28) rfl w.heap.size 0 reqZ rfl rfl HQ1.out req_info (by simp [Value.oneCell', reqZ]) ?_)
        refine bodyPost_ret (v := .tuple #[.agg reqZ, .int .i64 0, .int .i64 E]) (results_rtt rfl _ _ w.heap.size reqZ _ _ rfl rfl rfl HQ2.out req_info) rfl ⟨.slice none 0 0, ?_, ?_⟩
        · rw [HT2.out]; rfl
        · rw [HT2.out]; exact ⟨Byt.nil, World.ownsRow_nil _ _ _ _, HQ3.out⟩
    · have hge : ¬ (k : Int) < (len : Int) := by omega
      have HT2 : Bx (T = (wx0, 0, 3)) := ⟨by rw [← HS.out.run, List.drop_of_length_le (by rw [hl.out]; omega), runQ_nil wp0 HS.out.ov]⟩
      obtain ⟨q1, q2, q3⟩ := ans_put HS.out.res HS.out.bel reqZ rfl
      have HQ1 := Bx.mk q1
      have HQ2 := Bx.mk q2
      have HQ3 := Bx.mk q3
      clear q1 q2 q3
      go_wp2_with (refine wpList_store_mid rfl 28 (.tmp 2) (.tmp 40) rfl w.heap.size 0 reqZ rfl rfl HQ1.out req_info (by simp [Value.oneCell', reqZ]) ?_)
      refine bodyPost_ret (v := .tuple #[.agg reqZ, .int .i64 0, .int .i64 3]) (results_rtt rfl _ _ w.heap.size reqZ _ _ rfl rfl rfl HQ2.out req_info) rfl ⟨.slice none 0 0, ?_, ?_⟩
      · rw [HT2.out]; rfl
      · rw [HT2.out]; exact ⟨Byt.nil, World.ownsRow_nil _ _ _ _, HQ3.out⟩
end Go.Proofs.YtpfijaojgeceeaaGreatDoor
namespace Go.Proofs.YtpfijaojgeceeaaGreatDoor
open Go.RowKit
set_option linter.unusedVariables false

def liveL : List Int := [71, 69, 84, 32, 47, 97, 32, 72, 84, 84, 80, 47, 49, 46, 49, 13, 10, 13, 10]
set_option maxRecDepth 100000 in
theorem live_run13 : runQ wp0 ws0 liveL 0 = (⟨strOf [71, 69, 84], strOf [47, 97], ⟨#[]⟩, []⟩, 19, 0) :=
  Prod.ext (wx_ext (by decide +kernel) (by decide +kernel) (by decide +kernel) (by decide +kernel)) (Prod.ext (by decide +kernel) (by decide +kernel))
end Go.Proofs.YtpfijaojgeceeaaGreatDoor
namespace Go.Proofs.YtpfijaojgeceeaaGreatDoor
open Go.RowKit
set_option linter.unusedVariables false

set_option maxRecDepth 100000 in
set_option maxHeartbeats 1000000 in
theorem wsame_any (x y : WX) (a b : Option Addr) (n m c d : Nat) (w : World) (ha : Bts w a n c x.b) (hb : Bts w b m d y.b) :
    Calls Tryz.prog 22 #[reqV x (.slice a n c), reqV y (.slice b m d)] w fun e w' => e = .returned (.bool (smW x y)) ∧ Below w.heap.size w w' := by
  have hB1 : Below w.heap.size w (w.alloc (.cells #[.string x.m, .string x.t, .string x.k, .slice a n c] 28)) := (Below.refl _ _).alloc (Nat.le_refl _) _
  have hB2 : Below w.heap.size w ((w.alloc (.cells #[.string x.m, .string x.t, .string x.k, .slice a n c] 28)).alloc (.cells #[.string y.m, .string y.t, .string y.k, .slice b m d] 28)) := hB1.alloc (by simp) _
  have C1 : Hid (∀ W, Below w.heap.size w W → Calls Tryz.prog 27 #[.slice a n c, .slice b m d] W fun e w' => e = .returned (.bool (decide (x.b = y.b))) ∧ ∃ q, w' = W.drewN q) := fun W hW => (beq_any a b n m c d x.b y.b W (ha.below hW) (hb.below hW)).mono fun e w' h => ⟨h.1, 0, h.2 ▸ rfl⟩
  have e1 := strs_beq x.m y.m
  have e2 := strs_beq x.t y.t
  have e3 := strs_beq x.k y.k
  have HS : Bx (smW x y = (decide (x.m = y.m) && (decide (x.t = y.t) && (decide (x.k = y.k) && decide (x.b = y.b))))) := ⟨rfl⟩
  have HB2 := Bx.mk hB2
  unfold reqV
  generalize smW x y = R at HS ⊢
  generalize decide (x.m = y.m) = b1 at *
  generalize decide (x.t = y.t) = b2 at *
  generalize decide (x.k = y.k) = b3 at *
  generalize decide (x.b = y.b) = b4 at *
  generalize x.m = xm at *
  generalize y.m = ym at *
  generalize x.t = xt at *
  generalize y.t = yt at *
  generalize x.k = xk at *
  generalize y.k = yk at *
  clear ha hb hB1 hB2
  cases b1 with
  | false =>
    go_enter Tryz.func22, Tryz.ntmps22
    go_wp2
    go_ret
    exact ⟨by rw [HS.out]; rfl, HB2.out⟩
  | true =>
    cases b2 with
    | false =>
      go_enter Tryz.func22, Tryz.ntmps22
      go_wp2
      go_ret
      exact ⟨by rw [HS.out]; rfl, HB2.out⟩
    | true =>
      cases b3 with
      | false =>
        go_enter Tryz.func22, Tryz.ntmps22
        go_wp2
        go_ret
        exact ⟨by rw [HS.out]; rfl, HB2.out⟩
      | true =>
        go_enter Tryz.func22, Tryz.ntmps22
        go_wp2_with fail
        refine (C1.out _ HB2.out).mono ?_
        rintro e w' ⟨rfl, q, rfl⟩
        go_wp2
        go_ret
        exact ⟨by rw [HS.out]; rfl, below_drewN HB2.out q⟩
end Go.Proofs.YtpfijaojgeceeaaGreatDoor
