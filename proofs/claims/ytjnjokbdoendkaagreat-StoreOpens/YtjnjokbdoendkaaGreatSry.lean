/- What Sync and Crash of the document's own disk do. Sync and Crash of the document's own disk. -/
import Derived.Test.YtjnjokbdoendkaaGreatSrx
import Derived.Test.YtjnjokbdoendkaaGreatSdk
namespace Go.Proofs.YtjnjokbdoendkaaGreat
open Go.RowKit
set_option linter.unusedVariables false

set_option maxRecDepth 100000 in
theorem Rf.ent {w : World} {g : Nat} {own : Nat → Prop} {n : Nat} {X : List Ent} {left : Int} {power : Bool} {gl m c : Nat} (h : Rf w g own n X left power (.slice (some ⟨gl, 0, none⟩) m c)) {j : Nat} {x : Ent} (hx : X[j]? = some x) : w.cell? ⟨gl, j * 3, none⟩ = some (.int .i64 x.pos) ∧ w.cell? ⟨gl, j * 3 + 1, none⟩ = some x.v ∧ w.cell? ⟨gl, j * 3 + 2, none⟩ = some (.bool x.sure) := ent_cells h.lst j x hx
set_option maxRecDepth 100000 in
theorem RowAt.same {w : World} {own own2 : Nat → Prop} {x y : Ent} (h : RowAt w own y) (e1 : x.v = y.v) (e2 : x.l = y.l) (ho : ∀ k, own k → own2 k) : RowAt w own2 x := by
  obtain ⟨b, c, cs, h1, h2, h3⟩ := h
  exact ⟨b, c, cs, e1.trans h1, ho b h2, by rw [e2]; exact h3⟩
set_option maxRecDepth 100000 in
theorem v_one {w : World} {own : Nat → Prop} {x : Ent} (h : RowAt w own x) (b : Bool) : ∀ u ∈ [Value.int .i64 x.pos, x.v, .bool b], u.oneCell' = true := by
  obtain ⟨b', c, cs, h1, _⟩ := h
  intro u hu
  rw [h1] at hu
  simp only [List.mem_cons, List.not_mem_nil, or_false] at hu
  rcases hu with rfl | rfl | rfl <;> rfl
set_option maxRecDepth 100000 in
set_option maxHeartbeats 1000000 in
theorem settle_any (g : Nat) (own : Nat → Prop) (n : Nat) (X : List Ent) (left : Int) (power : Bool) (vl : Value) (w : World) (h : Rf w g own n X left power vl) (hX : X.length ≤ 1000) :
    Calls Tryz.prog 50 #[.pointer (some ⟨g, 0, none⟩)] w fun e w' => (∃ u, e = .returned u) ∧ ∃ own' vl', Rf w' g own' n (setl X) left power vl' ∧ Did own w w' own' := by
  obtain ⟨a, c, rfl, hc1, hc2⟩ := vl_form h.lst
  have HR : Bx _ := ⟨h⟩
  obtain ⟨N, hN⟩ : ∃ N, N = w.heap.size := ⟨_, rfl⟩
  have HN : Bx (N = w.heap.size) := ⟨hN⟩
  have HOL : Bx (∀ q, own q → q < N) := ⟨fun q hq => by rw [hN]; exact h.lt q hq⟩
  have hR0 : ∃ Y, Bx (Y ++ setl (X.drop 0) = setl X) ∧ w.ownsRow N 111 3 (.slice none 0 0) Y.length (ecl Y) ∧ Below N w w ∧ Y.length ≤ 0 := ⟨[], ⟨rfl⟩, World.ownsRow_nil _ _ _ _, Below.refl _ _, Nat.le_refl _⟩
  clear h hN
  go_enter Tryz.func50, Tryz.ntmps50
  go_wp2
  go_loopw [2, 3] (fun v i wr => ∃ j : Nat, j ≤ X.length ∧ i = .int .i64 j ∧ ∃ Y, Bx (Y ++ setl (X.drop j) = setl X) ∧ wr.ownsRow N 111 3 v Y.length (ecl Y) ∧ Below N w wr ∧ Y.length ≤ j) (fun _ i _ => X.length - (intOf i).toNat)
  case atStart => exact ⟨0, Nat.zero_le _, rfl, hR0⟩
  case round =>
    clear hR0
    obtain ⟨j, hj, rfl, Y, HY, hown, hlow, hYj⟩ := hrel
    obtain ⟨vAll, hvAll⟩ : ∃ vAll, vAll = u2 := ⟨_, rfl⟩
    subst hvAll
    have hRr := HR.out.keep (w' := wr) (fun q hq => hlow.block q (HOL.out q hq)) hlow.size
    have c1 := hRr.c1
    by_cases hlt : j < X.length
    · have hI : (j : Int) < (X.length : Int) := by omega
      obtain ⟨gl, x, rfl, hx0, k0, k1, k2⟩ := hRr.nth j hlt
      have hx : Bx (X[j]? = some x) := ⟨hx0⟩
      have HSR := setl_round X j x hx0
      have HYS : Bx (Y ++ (if anyX (X.drop (j + 1)) x.pos then setl (X.drop (j + 1)) else { x with sure := true } :: setl (X.drop (j + 1))) = setl X) := ⟨by rw [← HSR]; exact HY.out⟩
      obtain ⟨bx, cx, _, hxv0, _⟩ := hRr.ents x (List.mem_of_getElem? hx0)
      have hxv : Bx (x.v = .slice (some ⟨bx, 0, none⟩) 64 cx) := ⟨hxv0⟩
      have hxo : Bx (∀ u ∈ [Value.int .i64 x.pos, .slice (some ⟨bx, 0, none⟩) 64 cx, .bool true], u.oneCell' = true) := ⟨by rw [← hxv0]; exact v_one (hRr.ents x (List.mem_of_getElem? hx0)) true⟩
      have HRR : Bx _ := ⟨hRr⟩
      obtain ⟨wo, hwo⟩ : ∃ wo, wo = wr := ⟨_, rfl⟩
      subst hwo
      have HK0 : Bx _ := ⟨k0⟩
      have HC1 : Bx _ := ⟨c1⟩
      have HOW : Bx _ := ⟨hown⟩
      have HLO : Bx _ := ⟨hlow⟩
      clear HSR hx0 hRr k0 k1 k2 hown hlow HY hxv0
      go_wp2
      clear c1
      go_loopw [4, 5] (fun lv k wr => ∃ (t q : Nat) (bl : Bool), j + 1 ≤ t ∧ t ≤ X.length ∧ k = .int .i64 t ∧ lv = .bool bl ∧ Bx ((bl || anyX (X.drop t) x.pos) = anyX (X.drop (j + 1)) x.pos) ∧ wr = wo.drewN q) (fun _ k _ => X.length - (intOf k).toNat)
      case atStart => exact ⟨j + 1, 0, false, Nat.le_refl _, by omega, by go_num, rfl, ⟨rfl⟩, rfl⟩
      case round =>
        obtain ⟨t, q, bl, ht1, ht2, rfl, hlv, HBL, hwr⟩ := hrel
        replace hlv : u4 = .bool bl := hlv
        subst hlv
        have c1r : wr.cell? ⟨g, 1, none⟩ = some (.slice (some ⟨gl, 0, none⟩) X.length c) := by rw [hwr]; exact HC1.out
        by_cases htl : t < X.length
        · have htI : (t : Int) < (X.length : Int) := by omega
          obtain ⟨gl2, y, e2, hy, m0, m1, m2⟩ := HRR.out.nth t htl
          cases e2
          have HAR := anyX_round X t y x.pos hy
          have HBN : Bx ((bl || (decide (y.pos = x.pos) || anyX (X.drop (t + 1)) x.pos)) = anyX (X.drop (j + 1)) x.pos) := ⟨by rw [← HAR]; exact HBL.out⟩
          have hk : wr.drew.cell? ⟨g, 1, none⟩ = some (.slice (some ⟨gl, 0, none⟩) X.length c) ∧ wr.drew.cell? ⟨gl, t * 3, none⟩ = some (.int .i64 y.pos) ∧ wr.drew.cell? ⟨gl, j * 3, none⟩ = some (.int .i64 x.pos) ∧ Hid (∃ q, wr.drew = wo.drewN q) := by
            have e : wr.drew = wo.drewN (q + 1) := by rw [hwr]; rfl
            rw [e]
            exact ⟨HC1.out, m0, HK0.out, ⟨q + 1, rfl⟩⟩
          generalize y.pos = yp at hk HBN
          generalize hxp : x.pos = xp at hk HBN
          have HXP : Bx (x.pos = xp) := ⟨hxp⟩
          clear HAR hy m0 m1 m2 hwr HBL hxp
          go_upto_region 8 with fail
          clear c1r
          cases bl with
          | true =>
            refine wp_region_held_drew (S := fun W => W.cell? ⟨g, 1, none⟩ = some (.slice (some ⟨gl, 0, none⟩) X.length c) ∧ W.cell? ⟨gl, t * 3, none⟩ = some (.int .i64 yp) ∧ W.cell? ⟨gl, j * 3, none⟩ = some (.int .i64 xp) ∧ Hid (∃ q, W = wo.drewN q)) (by kernel_rfl) hk (fun _ => ?_)
            generalize wr.drew = wk at hk ⊢
            refine wpAnyH_take (i := 0) (oi := ⟨some 26, .move (.tmp 4), 4, "ref.go:127", #[], none⟩) (v := ?vdse8a1) rfl (by kernel_rfl) (by kernel_rfl) (by kernel_rfl) (fun _ _ _ h => h) (Or.inl ⟨by rfl, ?ydse8a1⟩) hk ?rdse8a1
            case ydse8a1 => (intro w hSw; (try dsimp only at hSw); go_simp; first | done | with_reducible rfl)
            simp only [Act.put, List.setIfInBounds_toArray, List.set_cons_zero, List.set_cons_succ]
            refine wpAnyH_take (i := 1) (oi := ⟨some 27, .move (.tmp 26), 4, "ref.go:127", #[⟨0, .data⟩], none⟩) (v := ?vdse8a2) rfl (by kernel_rfl) (by kernel_rfl) (by kernel_rfl) (fun _ _ _ h => h) (Or.inl ⟨by rfl, ?ydse8a2⟩) hk ?rdse8a2
            case ydse8a2 => (intro w hSw; (try dsimp only at hSw); go_simp; first | done | with_reducible rfl)
            simp only [Act.put, List.setIfInBounds_toArray, List.set_cons_zero, List.set_cons_succ]
            refine wpAnyH_take (i := 2) (oi := ⟨some 28, .move (.tmp 0), 29, "ref.go:127", #[⟨1, .guard⟩], some (1, false)⟩) (v := undef) rfl (by kernel_rfl) (by kernel_rfl) (by kernel_rfl) (fun _ _ _ h => h) (Or.inr ⟨by rfl, rfl⟩) hk ?_
            simp only [Act.put, List.setIfInBounds_toArray, List.set_cons_zero, List.set_cons_succ]
            refine wpAnyH_take (i := 3) (oi := ⟨some 29, .nilCheck (.tmp 28), 0, "ref.go:127", #[⟨2, .data⟩, ⟨1, .guard⟩], some (1, false)⟩) (v := undef) rfl (by kernel_rfl) (by kernel_rfl) (by kernel_rfl) (fun _ _ _ h => h) (Or.inr ⟨by rfl, rfl⟩) hk ?_
            simp only [Act.put, List.setIfInBounds_toArray, List.set_cons_zero, List.set_cons_succ]
            refine wpAnyH_take (i := 4) (oi := ⟨some 30, .fieldAddr 80 (.tmp 29) 1, 0, "ref.go:127", #[⟨3, .data⟩, ⟨1, .guard⟩], some (1, false)⟩) (v := undef) rfl (by kernel_rfl) (by kernel_rfl) (by kernel_rfl) (fun _ _ _ h => h) (Or.inr ⟨by rfl, rfl⟩) hk ?_
            simp only [Act.put, List.setIfInBounds_toArray, List.set_cons_zero, List.set_cons_succ]
            refine wpAnyH_take (i := 5) (oi := ⟨some 31, .load 78 (.tmp 30), 78, "ref.go:127", #[⟨4, .data⟩, ⟨1, .guard⟩], some (1, false)⟩) (v := undef) rfl (by kernel_rfl) (by kernel_rfl) (by kernel_rfl) (fun _ _ _ h => h) (Or.inr ⟨by rfl, rfl⟩) hk ?_
            simp only [Act.put, List.setIfInBounds_toArray, List.set_cons_zero, List.set_cons_succ]
            refine wpAnyH_take (i := 6) (oi := ⟨some 32, .move (.tmp 5), 3, "ref.go:127", #[⟨1, .guard⟩], some (1, false)⟩) (v := undef) rfl (by kernel_rfl) (by kernel_rfl) (by kernel_rfl) (fun _ _ _ h => h) (Or.inr ⟨by rfl, rfl⟩) hk ?_
            simp only [Act.put, List.setIfInBounds_toArray, List.set_cons_zero, List.set_cons_succ]
            refine wpAnyH_take (i := 7) (oi := ⟨some 33, .indexAddr 78 (.tmp 31) (.tmp 32), 0, "ref.go:127", #[⟨5, .data⟩, ⟨6, .data⟩, ⟨1, .guard⟩], some (1, false)⟩) (v := undef) rfl (by kernel_rfl) (by kernel_rfl) (by kernel_rfl) (fun _ _ _ h => h) (Or.inr ⟨by rfl, rfl⟩) hk ?_
            simp only [Act.put, List.setIfInBounds_toArray, List.set_cons_zero, List.set_cons_succ]
            refine wpAnyH_take (i := 8) (oi := ⟨some 34, .fieldAddr 111 (.tmp 33) 0, 0, "ref.go:127", #[⟨7, .data⟩, ⟨1, .guard⟩], some (1, false)⟩) (v := undef) rfl (by kernel_rfl) (by kernel_rfl) (by kernel_rfl) (fun _ _ _ h => h) (Or.inr ⟨by rfl, rfl⟩) hk ?_
            simp only [Act.put, List.setIfInBounds_toArray, List.set_cons_zero, List.set_cons_succ]
            refine wpAnyH_take (i := 9) (oi := ⟨some 35, .load 3 (.tmp 34), 3, "ref.go:127", #[⟨8, .data⟩, ⟨1, .guard⟩], some (1, false)⟩) (v := undef) rfl (by kernel_rfl) (by kernel_rfl) (by kernel_rfl) (fun _ _ _ h => h) (Or.inr ⟨by rfl, rfl⟩) hk ?_
            simp only [Act.put, List.setIfInBounds_toArray, List.set_cons_zero, List.set_cons_succ]
            refine wpAnyH_take (i := 10) (oi := ⟨some 36, .move (.tmp 0), 29, "ref.go:127", #[⟨1, .guard⟩], some (1, false)⟩) (v := undef) rfl (by kernel_rfl) (by kernel_rfl) (by kernel_rfl) (fun _ _ _ h => h) (Or.inr ⟨by rfl, rfl⟩) hk ?_
            simp only [Act.put, List.setIfInBounds_toArray, List.set_cons_zero, List.set_cons_succ]
            refine wpAnyH_take (i := 11) (oi := ⟨some 37, .nilCheck (.tmp 36), 0, "ref.go:127", #[⟨10, .data⟩, ⟨1, .guard⟩], some (1, false)⟩) (v := undef) rfl (by kernel_rfl) (by kernel_rfl) (by kernel_rfl) (fun _ _ _ h => h) (Or.inr ⟨by rfl, rfl⟩) hk ?_
            simp only [Act.put, List.setIfInBounds_toArray, List.set_cons_zero, List.set_cons_succ]
            refine wpAnyH_take (i := 12) (oi := ⟨some 38, .fieldAddr 80 (.tmp 37) 1, 0, "ref.go:127", #[⟨11, .data⟩, ⟨1, .guard⟩], some (1, false)⟩) (v := undef) rfl (by kernel_rfl) (by kernel_rfl) (by kernel_rfl) (fun _ _ _ h => h) (Or.inr ⟨by rfl, rfl⟩) hk ?_
            simp only [Act.put, List.setIfInBounds_toArray, List.set_cons_zero, List.set_cons_succ]
            refine wpAnyH_take (i := 13) (oi := ⟨some 39, .load 78 (.tmp 38), 78, "ref.go:127", #[⟨12, .data⟩, ⟨1, .guard⟩], some (1, false)⟩) (v := undef) rfl (by kernel_rfl) (by kernel_rfl) (by kernel_rfl) (fun _ _ _ h => h) (Or.inr ⟨by rfl, rfl⟩) hk ?_
            simp only [Act.put, List.setIfInBounds_toArray, List.set_cons_zero, List.set_cons_succ]
            refine wpAnyH_take (i := 14) (oi := ⟨some 40, .move (.tmp 3), 3, "ref.go:127", #[⟨1, .guard⟩], some (1, false)⟩) (v := undef) rfl (by kernel_rfl) (by kernel_rfl) (by kernel_rfl) (fun _ _ _ h => h) (Or.inr ⟨by rfl, rfl⟩) hk ?_
            simp only [Act.put, List.setIfInBounds_toArray, List.set_cons_zero, List.set_cons_succ]
            refine wpAnyH_take (i := 15) (oi := ⟨some 41, .indexAddr 78 (.tmp 39) (.tmp 40), 0, "ref.go:127", #[⟨13, .data⟩, ⟨14, .data⟩, ⟨1, .guard⟩], some (1, false)⟩) (v := undef) rfl (by kernel_rfl) (by kernel_rfl) (by kernel_rfl) (fun _ _ _ h => h) (Or.inr ⟨by rfl, rfl⟩) hk ?_
            simp only [Act.put, List.setIfInBounds_toArray, List.set_cons_zero, List.set_cons_succ]
            refine wpAnyH_take (i := 16) (oi := ⟨some 42, .fieldAddr 111 (.tmp 41) 0, 0, "ref.go:127", #[⟨15, .data⟩, ⟨1, .guard⟩], some (1, false)⟩) (v := undef) rfl (by kernel_rfl) (by kernel_rfl) (by kernel_rfl) (fun _ _ _ h => h) (Or.inr ⟨by rfl, rfl⟩) hk ?_
            simp only [Act.put, List.setIfInBounds_toArray, List.set_cons_zero, List.set_cons_succ]
            refine wpAnyH_take (i := 17) (oi := ⟨some 43, .load 3 (.tmp 42), 3, "ref.go:127", #[⟨16, .data⟩, ⟨1, .guard⟩], some (1, false)⟩) (v := undef) rfl (by kernel_rfl) (by kernel_rfl) (by kernel_rfl) (fun _ _ _ h => h) (Or.inr ⟨by rfl, rfl⟩) hk ?_
            simp only [Act.put, List.setIfInBounds_toArray, List.set_cons_zero, List.set_cons_succ]
            refine wpAnyH_take (i := 18) (oi := ⟨some 44, .binOp .eql 3 (.tmp 35) (.tmp 43) 3, 4, "ref.go:127", #[⟨9, .data⟩, ⟨17, .data⟩, ⟨1, .guard⟩], some (1, false)⟩) (v := undef) rfl (by kernel_rfl) (by kernel_rfl) (by kernel_rfl) (fun _ _ _ h => h) (Or.inr ⟨by rfl, rfl⟩) hk ?_
            simp only [Act.put, List.setIfInBounds_toArray, List.set_cons_zero, List.set_cons_succ]
            refine wpAnyH_take (i := 19) (oi := ⟨some 45, .pick (.tmp 27) (.const (Value.bool true)) (.tmp 44), 4, "ref.go:127", #[⟨1, .data⟩, ⟨18, .data⟩], none⟩) (v := ?vdse8a3) rfl (by kernel_rfl) (by kernel_rfl) (by kernel_rfl) (fun _ _ _ h => h) (Or.inl ⟨by rfl, ?ydse8a3⟩) hk ?rdse8a3
            case ydse8a3 => (intro w hSw; (try dsimp only at hSw); go_simp; first | done | with_reducible rfl)
            simp only [Act.put, List.setIfInBounds_toArray, List.set_cons_zero, List.set_cons_succ]
            refine wpAnyH_take (i := 20) (oi := ⟨some 4, .assign (.tmp 45), 4, "ref.go:127", #[⟨19, .data⟩, ⟨1, .chain⟩, ⟨0, .phase⟩, ⟨1, .phase⟩, ⟨2, .phase⟩, ⟨3, .phase⟩, ⟨4, .phase⟩, ⟨5, .phase⟩, ⟨6, .phase⟩, ⟨7, .phase⟩, ⟨8, .phase⟩, ⟨9, .phase⟩, ⟨10, .phase⟩, ⟨11, .phase⟩, ⟨12, .phase⟩, ⟨13, .phase⟩, ⟨14, .phase⟩, ⟨15, .phase⟩, ⟨16, .phase⟩, ⟨17, .phase⟩, ⟨18, .phase⟩, ⟨19, .phase⟩], none⟩) (v := ?vdse8a4) rfl (by kernel_rfl) (by kernel_rfl) (by kernel_rfl) (fun _ _ _ h => h) (Or.inl ⟨by rfl, ?ydse8a4⟩) hk ?rdse8a4
            case ydse8a4 => (intro w hSw; (try dsimp only at hSw); go_simp; first | done | with_reducible rfl)
            simp only [Act.put, List.setIfInBounds_toArray, List.set_cons_zero, List.set_cons_succ]
            refine wpAnyH_done (by decide +kernel) ?_ _
            obtain ⟨q9, hq9⟩ := hk.2.2.2.out
            clear hk
            go_wp2
            go_roundw
            case rel => exact ⟨t + 1, q9, true, by omega, by omega, by go_num, rfl, ⟨by have := HBN.out; simpa using this⟩, by first | exact hq9 | rfl⟩
            case measure => simp [intOf]; omega
          | false =>
            have HBE : Bx ((yp == xp) = decide (yp = xp)) := ⟨by
              by_cases he : yp = xp
              · rw [decide_eq_true he]; simpa using he
              · rw [decide_eq_false he]; simpa using he⟩
            refine wp_region_held_drew (S := fun W => W.cell? ⟨g, 1, none⟩ = some (.slice (some ⟨gl, 0, none⟩) X.length c) ∧ W.cell? ⟨gl, t * 3, none⟩ = some (.int .i64 yp) ∧ W.cell? ⟨gl, j * 3, none⟩ = some (.int .i64 xp) ∧ Hid (∃ q, W = wo.drewN q)) (by kernel_rfl) hk (fun _ => ?_)
            generalize wr.drew = wk at hk ⊢
            refine wpAnyH_take (i := 0) (oi := ⟨some 26, .move (.tmp 4), 4, "ref.go:127", #[], none⟩) (v := ?vdse8b1) rfl (by kernel_rfl) (by kernel_rfl) (by kernel_rfl) (fun _ _ _ h => h) (Or.inl ⟨by rfl, ?ydse8b1⟩) hk ?rdse8b1
            case ydse8b1 => (intro w hSw; (try dsimp only at hSw); go_simp; first | done | with_reducible rfl)
            simp only [Act.put, List.setIfInBounds_toArray, List.set_cons_zero, List.set_cons_succ]
            refine wpAnyH_take (i := 1) (oi := ⟨some 27, .move (.tmp 26), 4, "ref.go:127", #[⟨0, .data⟩], none⟩) (v := ?vdse8b2) rfl (by kernel_rfl) (by kernel_rfl) (by kernel_rfl) (fun _ _ _ h => h) (Or.inl ⟨by rfl, ?ydse8b2⟩) hk ?rdse8b2
            case ydse8b2 => (intro w hSw; (try dsimp only at hSw); go_simp; first | done | with_reducible rfl)
            simp only [Act.put, List.setIfInBounds_toArray, List.set_cons_zero, List.set_cons_succ]
            refine wpAnyH_take (i := 2) (oi := ⟨some 28, .move (.tmp 0), 29, "ref.go:127", #[⟨1, .guard⟩], some (1, false)⟩) (v := ?vdse8b3) rfl (by kernel_rfl) (by kernel_rfl) (by kernel_rfl) (fun _ _ _ h => h) (Or.inl ⟨by rfl, ?ydse8b3⟩) hk ?rdse8b3
            case ydse8b3 => (intro w hSw; (try dsimp only at hSw); go_simp; first | done | with_reducible rfl)
            simp only [Act.put, List.setIfInBounds_toArray, List.set_cons_zero, List.set_cons_succ]
            refine wpAnyH_take (i := 3) (oi := ⟨some 29, .nilCheck (.tmp 28), 0, "ref.go:127", #[⟨2, .data⟩, ⟨1, .guard⟩], some (1, false)⟩) (v := ?vdse8b4) rfl (by kernel_rfl) (by kernel_rfl) (by kernel_rfl) (fun _ _ _ h => h) (Or.inl ⟨by rfl, ?ydse8b4⟩) hk ?rdse8b4
            case ydse8b4 => (intro w hSw; (try dsimp only at hSw); go_simp; first | done | with_reducible rfl)
            simp only [Act.put, List.setIfInBounds_toArray, List.set_cons_zero, List.set_cons_succ]
            refine wpAnyH_take (i := 4) (oi := ⟨some 30, .fieldAddr 80 (.tmp 29) 1, 0, "ref.go:127", #[⟨3, .data⟩, ⟨1, .guard⟩], some (1, false)⟩) (v := ?vdse8b5) rfl (by kernel_rfl) (by kernel_rfl) (by kernel_rfl) (fun _ _ _ h => h) (Or.inl ⟨by rfl, ?ydse8b5⟩) hk ?rdse8b5
            case ydse8b5 => (intro w hSw; (try dsimp only at hSw); go_simp; first | done | with_reducible rfl)
            simp only [Act.put, List.setIfInBounds_toArray, List.set_cons_zero, List.set_cons_succ]
            refine wpAnyH_take (i := 5) (oi := ⟨some 31, .load 78 (.tmp 30), 78, "ref.go:127", #[⟨4, .data⟩, ⟨1, .guard⟩], some (1, false)⟩) (v := ?vdse8b6) rfl (by kernel_rfl) (by kernel_rfl) (by kernel_rfl) (fun _ _ _ h => h) (Or.inl ⟨by rfl, ?ydse8b6⟩) hk ?rdse8b6
            case ydse8b6 => (intro w hSw; have hcw := hSw.1; clear hSw; go_simp; first | done | with_reducible rfl)
            simp only [Act.put, List.setIfInBounds_toArray, List.set_cons_zero, List.set_cons_succ]
            refine wpAnyH_take (i := 6) (oi := ⟨some 32, .move (.tmp 5), 3, "ref.go:127", #[⟨1, .guard⟩], some (1, false)⟩) (v := ?vdse8b7) rfl (by kernel_rfl) (by kernel_rfl) (by kernel_rfl) (fun _ _ _ h => h) (Or.inl ⟨by rfl, ?ydse8b7⟩) hk ?rdse8b7
            case ydse8b7 => (intro w hSw; (try dsimp only at hSw); go_simp; first | done | with_reducible rfl)
            simp only [Act.put, List.setIfInBounds_toArray, List.set_cons_zero, List.set_cons_succ]
            refine wpAnyH_take (i := 7) (oi := ⟨some 33, .indexAddr 78 (.tmp 31) (.tmp 32), 0, "ref.go:127", #[⟨5, .data⟩, ⟨6, .data⟩, ⟨1, .guard⟩], some (1, false)⟩) (v := ?vdse8b8) rfl (by kernel_rfl) (by kernel_rfl) (by kernel_rfl) (fun _ _ _ h => h) (Or.inl ⟨by rfl, ?ydse8b8⟩) hk ?rdse8b8
            case ydse8b8 => (intro w hSw; (try dsimp only at hSw); go_simp; first | done | with_reducible rfl)
            simp only [Act.put, List.setIfInBounds_toArray, List.set_cons_zero, List.set_cons_succ]
            refine wpAnyH_take (i := 8) (oi := ⟨some 34, .fieldAddr 111 (.tmp 33) 0, 0, "ref.go:127", #[⟨7, .data⟩, ⟨1, .guard⟩], some (1, false)⟩) (v := ?vdse8b9) rfl (by kernel_rfl) (by kernel_rfl) (by kernel_rfl) (fun _ _ _ h => h) (Or.inl ⟨by rfl, ?ydse8b9⟩) hk ?rdse8b9
            case ydse8b9 => (intro w hSw; (try dsimp only at hSw); go_simp; first | done | with_reducible rfl)
            simp only [Act.put, List.setIfInBounds_toArray, List.set_cons_zero, List.set_cons_succ]
            refine wpAnyH_take (i := 9) (oi := ⟨some 35, .load 3 (.tmp 34), 3, "ref.go:127", #[⟨8, .data⟩, ⟨1, .guard⟩], some (1, false)⟩) (v := ?vdse8b10) rfl (by kernel_rfl) (by kernel_rfl) (by kernel_rfl) (fun _ _ _ h => h) (Or.inl ⟨by rfl, ?ydse8b10⟩) hk ?rdse8b10
            case ydse8b10 => (intro w hSw; have hcw := hSw.2.1; clear hSw; go_simp; first | done | with_reducible rfl)
            simp only [Act.put, List.setIfInBounds_toArray, List.set_cons_zero, List.set_cons_succ]
            refine wpAnyH_take (i := 10) (oi := ⟨some 36, .move (.tmp 0), 29, "ref.go:127", #[⟨1, .guard⟩], some (1, false)⟩) (v := ?vdse8b11) rfl (by kernel_rfl) (by kernel_rfl) (by kernel_rfl) (fun _ _ _ h => h) (Or.inl ⟨by rfl, ?ydse8b11⟩) hk ?rdse8b11
            case ydse8b11 => (intro w hSw; (try dsimp only at hSw); go_simp; first | done | with_reducible rfl)
            simp only [Act.put, List.setIfInBounds_toArray, List.set_cons_zero, List.set_cons_succ]
            refine wpAnyH_take (i := 11) (oi := ⟨some 37, .nilCheck (.tmp 36), 0, "ref.go:127", #[⟨10, .data⟩, ⟨1, .guard⟩], some (1, false)⟩) (v := ?vdse8b12) rfl (by kernel_rfl) (by kernel_rfl) (by kernel_rfl) (fun _ _ _ h => h) (Or.inl ⟨by rfl, ?ydse8b12⟩) hk ?rdse8b12
            case ydse8b12 => (intro w hSw; (try dsimp only at hSw); go_simp; first | done | with_reducible rfl)
            simp only [Act.put, List.setIfInBounds_toArray, List.set_cons_zero, List.set_cons_succ]
            refine wpAnyH_take (i := 12) (oi := ⟨some 38, .fieldAddr 80 (.tmp 37) 1, 0, "ref.go:127", #[⟨11, .data⟩, ⟨1, .guard⟩], some (1, false)⟩) (v := ?vdse8b13) rfl (by kernel_rfl) (by kernel_rfl) (by kernel_rfl) (fun _ _ _ h => h) (Or.inl ⟨by rfl, ?ydse8b13⟩) hk ?rdse8b13
            case ydse8b13 => (intro w hSw; (try dsimp only at hSw); go_simp; first | done | with_reducible rfl)
            simp only [Act.put, List.setIfInBounds_toArray, List.set_cons_zero, List.set_cons_succ]
            refine wpAnyH_take (i := 13) (oi := ⟨some 39, .load 78 (.tmp 38), 78, "ref.go:127", #[⟨12, .data⟩, ⟨1, .guard⟩], some (1, false)⟩) (v := ?vdse8b14) rfl (by kernel_rfl) (by kernel_rfl) (by kernel_rfl) (fun _ _ _ h => h) (Or.inl ⟨by rfl, ?ydse8b14⟩) hk ?rdse8b14
            case ydse8b14 => (intro w hSw; have hcw := hSw.1; clear hSw; go_simp; first | done | with_reducible rfl)
            simp only [Act.put, List.setIfInBounds_toArray, List.set_cons_zero, List.set_cons_succ]
            refine wpAnyH_take (i := 14) (oi := ⟨some 40, .move (.tmp 3), 3, "ref.go:127", #[⟨1, .guard⟩], some (1, false)⟩) (v := ?vdse8b15) rfl (by kernel_rfl) (by kernel_rfl) (by kernel_rfl) (fun _ _ _ h => h) (Or.inl ⟨by rfl, ?ydse8b15⟩) hk ?rdse8b15
            case ydse8b15 => (intro w hSw; (try dsimp only at hSw); go_simp; first | done | with_reducible rfl)
            simp only [Act.put, List.setIfInBounds_toArray, List.set_cons_zero, List.set_cons_succ]
            refine wpAnyH_take (i := 15) (oi := ⟨some 41, .indexAddr 78 (.tmp 39) (.tmp 40), 0, "ref.go:127", #[⟨13, .data⟩, ⟨14, .data⟩, ⟨1, .guard⟩], some (1, false)⟩) (v := ?vdse8b16) rfl (by kernel_rfl) (by kernel_rfl) (by kernel_rfl) (fun _ _ _ h => h) (Or.inl ⟨by rfl, ?ydse8b16⟩) hk ?rdse8b16
            case ydse8b16 => (intro w hSw; (try dsimp only at hSw); go_simp; first | done | with_reducible rfl)
            simp only [Act.put, List.setIfInBounds_toArray, List.set_cons_zero, List.set_cons_succ]
            refine wpAnyH_take (i := 16) (oi := ⟨some 42, .fieldAddr 111 (.tmp 41) 0, 0, "ref.go:127", #[⟨15, .data⟩, ⟨1, .guard⟩], some (1, false)⟩) (v := ?vdse8b17) rfl (by kernel_rfl) (by kernel_rfl) (by kernel_rfl) (fun _ _ _ h => h) (Or.inl ⟨by rfl, ?ydse8b17⟩) hk ?rdse8b17
            case ydse8b17 => (intro w hSw; (try dsimp only at hSw); go_simp; first | done | with_reducible rfl)
            simp only [Act.put, List.setIfInBounds_toArray, List.set_cons_zero, List.set_cons_succ]
            refine wpAnyH_take (i := 17) (oi := ⟨some 43, .load 3 (.tmp 42), 3, "ref.go:127", #[⟨16, .data⟩, ⟨1, .guard⟩], some (1, false)⟩) (v := ?vdse8b18) rfl (by kernel_rfl) (by kernel_rfl) (by kernel_rfl) (fun _ _ _ h => h) (Or.inl ⟨by rfl, ?ydse8b18⟩) hk ?rdse8b18
            case ydse8b18 => (intro w hSw; have hcw := hSw.2.2.1; clear hSw; go_simp; first | done | with_reducible rfl)
            simp only [Act.put, List.setIfInBounds_toArray, List.set_cons_zero, List.set_cons_succ]
            refine wpAnyH_take (i := 18) (oi := ⟨some 44, .binOp .eql 3 (.tmp 35) (.tmp 43) 3, 4, "ref.go:127", #[⟨9, .data⟩, ⟨17, .data⟩, ⟨1, .guard⟩], some (1, false)⟩) (v := ?vdse8b19) rfl (by kernel_rfl) (by kernel_rfl) (by kernel_rfl) (fun _ _ _ h => h) (Or.inl ⟨by rfl, ?ydse8b19⟩) hk ?rdse8b19
            case ydse8b19 => (intro w hSw; (try dsimp only at hSw); go_simp; first | done | with_reducible rfl)
            simp only [Act.put, List.setIfInBounds_toArray, List.set_cons_zero, List.set_cons_succ]
            refine wpAnyH_take (i := 19) (oi := ⟨some 45, .pick (.tmp 27) (.const (Value.bool true)) (.tmp 44), 4, "ref.go:127", #[⟨1, .data⟩, ⟨18, .data⟩], none⟩) (v := ?vdse8b20) rfl (by kernel_rfl) (by kernel_rfl) (by kernel_rfl) (fun _ _ _ h => h) (Or.inl ⟨by rfl, ?ydse8b20⟩) hk ?rdse8b20
            case ydse8b20 => (intro w hSw; (try dsimp only at hSw); go_simp; first | done | with_reducible rfl)
            simp only [Act.put, List.setIfInBounds_toArray, List.set_cons_zero, List.set_cons_succ]
            refine wpAnyH_take (i := 20) (oi := ⟨some 4, .assign (.tmp 45), 4, "ref.go:127", #[⟨19, .data⟩, ⟨1, .chain⟩, ⟨0, .phase⟩, ⟨1, .phase⟩, ⟨2, .phase⟩, ⟨3, .phase⟩, ⟨4, .phase⟩, ⟨5, .phase⟩, ⟨6, .phase⟩, ⟨7, .phase⟩, ⟨8, .phase⟩, ⟨9, .phase⟩, ⟨10, .phase⟩, ⟨11, .phase⟩, ⟨12, .phase⟩, ⟨13, .phase⟩, ⟨14, .phase⟩, ⟨15, .phase⟩, ⟨16, .phase⟩, ⟨17, .phase⟩, ⟨18, .phase⟩, ⟨19, .phase⟩], none⟩) (v := ?vdse8b21) rfl (by kernel_rfl) (by kernel_rfl) (by kernel_rfl) (fun _ _ _ h => h) (Or.inl ⟨by rfl, ?ydse8b21⟩) hk ?rdse8b21
            case ydse8b21 => (intro w hSw; (try dsimp only at hSw); go_simp; first | done | with_reducible rfl)
            simp only [Act.put, List.setIfInBounds_toArray, List.set_cons_zero, List.set_cons_succ]
            refine wpAnyH_done (by decide +kernel) ?_ _
            obtain ⟨q9, hq9⟩ := hk.2.2.2.out
            clear hk
            go_wp2
            go_roundw
            case rel => exact ⟨t + 1, q9, (yp == xp), by omega, by omega, by go_num, rfl, ⟨by rw [HBE.out]; have := HBN.out; simpa using this⟩, by first | exact hq9 | rfl⟩
            case measure => simp [intOf]; omega
        · obtain rfl : t = X.length := by omega
          have HBF : Bx (bl = anyX (X.drop (j + 1)) x.pos) := ⟨by have := HBL.out; rw [List.drop_length] at this; rw [← this]; simp [anyX]⟩
          have hown : wr.ownsRow N 111 3 vAll Y.length (ecl Y) := by rw [hwr]; exact owns_drewN HOW.out q
          have hlow : Below N w wr := by rw [hwr]; exact below_drewN HLO.out q
          have hRi : Rf wr g own n X left power (.slice (some ⟨gl, 0, none⟩) X.length c) := by rw [hwr]; exact HRR.out.drewN q
          clear hwr HBL
          cases hany : anyX (X.drop (j + 1)) x.pos with
          | true =>
            rw [hany] at HBF HYS
            obtain rfl : bl = true := HBF.out
            have HYN : Bx (Y ++ setl (X.drop (j + 1)) = setl X) := ⟨by have := HYS.out; rwa [if_pos rfl] at this⟩
            clear hany HBF HYS hRi
            go_wp2
            go_roundw
            case rel => exact ⟨j + 1, by omega, by go_num, Y, HYN, hown, hlow, by omega⟩
            case measure => simp [intOf]; omega
          | false =>
            rw [hany] at HBF HYS
            obtain rfl : bl = false := HBF.out
            have HYN : Bx ((Y ++ [{ x with sure := true }]) ++ setl (X.drop (j + 1)) = setl X) := ⟨by have := HYS.out; rw [if_neg (by decide)] at this; rw [← this]; simp⟩
            clear hany HBF HYS
            obtain ⟨i0, hi0, hz0, hz1, hz2⟩ := info_parts ref_info
            obtain ⟨wi, hwi⟩ : ∃ wi, wi = wr := ⟨_, rfl⟩
            subst hwi
            go_upto_region 10 with fail
            clear c1r
            have hk : Rf wi.drew g own n X left power (.slice (some ⟨gl, 0, none⟩) X.length c) ∧ Below N w wi.drew := ⟨hRi.drewN 1, below_drewN hlow 1⟩
            replace hown : wi.drew.ownsRow N 111 3 vAll Y.length (ecl Y) := owns_drewN hown 1
            clear hRi hlow
            refine wp_region_held_drew (S := fun W => Rf W g own n X left power (.slice (some ⟨gl, 0, none⟩) X.length c) ∧ Below N w W) (by kernel_rfl) hk (fun _ => ?_)
            generalize wi.drew = wk at hk hown ⊢
            refine wpAnyH_take (i := 0) (oi := ⟨some 48, .move (.tmp 2), 78, "ref.go:130", #[], none⟩) (v := ?vdse101) rfl (by kernel_rfl) (by kernel_rfl) (by kernel_rfl) (fun _ _ _ h => h) (Or.inl ⟨by rfl, ?ydse101⟩) hk ?rdse101
            case ydse101 => (intro w hSw; (try dsimp only at hSw); go_simp; first | done | with_reducible rfl)
            simp only [Act.put, List.setIfInBounds_toArray, List.set_cons_zero, List.set_cons_succ]
            refine wpAnyH_take (i := 1) (oi := ⟨some 49, .move (.tmp 0), 29, "ref.go:130", #[], none⟩) (v := ?vdse102) rfl (by kernel_rfl) (by kernel_rfl) (by kernel_rfl) (fun _ _ _ h => h) (Or.inl ⟨by rfl, ?ydse102⟩) hk ?rdse102
            case ydse102 => (intro w hSw; (try dsimp only at hSw); go_simp; first | done | with_reducible rfl)
            simp only [Act.put, List.setIfInBounds_toArray, List.set_cons_zero, List.set_cons_succ]
            refine wpAnyH_take (i := 2) (oi := ⟨some 50, .nilCheck (.tmp 49), 0, "ref.go:130", #[⟨1, .data⟩], none⟩) (v := ?vdse103) rfl (by kernel_rfl) (by kernel_rfl) (by kernel_rfl) (fun _ _ _ h => h) (Or.inl ⟨by rfl, ?ydse103⟩) hk ?rdse103
            case ydse103 => (intro w hSw; (try dsimp only at hSw); go_simp; first | done | with_reducible rfl)
            simp only [Act.put, List.setIfInBounds_toArray, List.set_cons_zero, List.set_cons_succ]
            refine wpAnyH_take (i := 3) (oi := ⟨some 51, .fieldAddr 80 (.tmp 50) 1, 0, "ref.go:130", #[⟨2, .data⟩], none⟩) (v := ?vdse104) rfl (by kernel_rfl) (by kernel_rfl) (by kernel_rfl) (fun _ _ _ h => h) (Or.inl ⟨by rfl, ?ydse104⟩) hk ?rdse104
            case ydse104 => (intro w hSw; (try dsimp only at hSw); go_simp; first | done | with_reducible rfl)
            simp only [Act.put, List.setIfInBounds_toArray, List.set_cons_zero, List.set_cons_succ]
            refine wpAnyH_take (i := 4) (oi := ⟨some 52, .load 78 (.tmp 51), 78, "ref.go:130", #[⟨3, .data⟩], none⟩) (v := ?vdse105) rfl (by kernel_rfl) (by kernel_rfl) (by kernel_rfl) (fun _ _ _ h => h) (Or.inl ⟨by rfl, ?ydse105⟩) hk ?rdse105
            case ydse105 => (intro w hSw; have hcw := hSw.1.c1; clear hSw; go_simp; first | done | with_reducible rfl)
            simp only [Act.put, List.setIfInBounds_toArray, List.set_cons_zero, List.set_cons_succ]
            refine wpAnyH_take (i := 5) (oi := ⟨some 53, .move (.tmp 3), 3, "ref.go:130", #[], none⟩) (v := ?vdse106) rfl (by kernel_rfl) (by kernel_rfl) (by kernel_rfl) (fun _ _ _ h => h) (Or.inl ⟨by rfl, ?ydse106⟩) hk ?rdse106
            case ydse106 => (intro w hSw; (try dsimp only at hSw); go_simp; first | done | with_reducible rfl)
            simp only [Act.put, List.setIfInBounds_toArray, List.set_cons_zero, List.set_cons_succ]
            refine wpAnyH_take (i := 6) (oi := ⟨some 54, .indexAddr 78 (.tmp 52) (.tmp 53), 0, "ref.go:130", #[⟨4, .data⟩, ⟨5, .data⟩], none⟩) (v := ?vdse107) rfl (by kernel_rfl) (by kernel_rfl) (by kernel_rfl) (fun _ _ _ h => h) (Or.inl ⟨by rfl, ?ydse107⟩) hk ?rdse107
            case ydse107 => (intro w hSw; (try dsimp only at hSw); go_simp; first | done | with_reducible rfl)
            simp only [Act.put, List.setIfInBounds_toArray, List.set_cons_zero, List.set_cons_succ]
            refine wpAnyH_take (i := 7) (oi := ⟨some 55, .fieldAddr 111 (.tmp 54) 0, 0, "ref.go:130", #[⟨6, .data⟩], none⟩) (v := ?vdse108) rfl (by kernel_rfl) (by kernel_rfl) (by kernel_rfl) (fun _ _ _ h => h) (Or.inl ⟨by rfl, ?ydse108⟩) hk ?rdse108
            case ydse108 => (intro w hSw; (try dsimp only at hSw); go_simp; first | done | with_reducible rfl)
            simp only [Act.put, List.setIfInBounds_toArray, List.set_cons_zero, List.set_cons_succ]
            refine wpAnyH_take (i := 8) (oi := ⟨some 56, .load 3 (.tmp 55), 3, "ref.go:130", #[⟨7, .data⟩], none⟩) (v := ?vdse109) rfl (by kernel_rfl) (by kernel_rfl) (by kernel_rfl) (fun _ _ _ h => h) (Or.inl ⟨by rfl, ?ydse109⟩) hk ?rdse109
            case ydse109 => (intro w hSw; have hcw := (hSw.1.ent hx.out).1; clear hSw; go_simp; first | done | with_reducible rfl)
            simp only [Act.put, List.setIfInBounds_toArray, List.set_cons_zero, List.set_cons_succ]
            refine wpAnyH_take (i := 9) (oi := ⟨some 57, .move (.tmp 0), 29, "ref.go:130", #[], none⟩) (v := ?vdse1010) rfl (by kernel_rfl) (by kernel_rfl) (by kernel_rfl) (fun _ _ _ h => h) (Or.inl ⟨by rfl, ?ydse1010⟩) hk ?rdse1010
            case ydse1010 => (intro w hSw; (try dsimp only at hSw); go_simp; first | done | with_reducible rfl)
            simp only [Act.put, List.setIfInBounds_toArray, List.set_cons_zero, List.set_cons_succ]
            refine wpAnyH_take (i := 10) (oi := ⟨some 58, .nilCheck (.tmp 57), 0, "ref.go:130", #[⟨9, .data⟩], none⟩) (v := ?vdse1011) rfl (by kernel_rfl) (by kernel_rfl) (by kernel_rfl) (fun _ _ _ h => h) (Or.inl ⟨by rfl, ?ydse1011⟩) hk ?rdse1011
            case ydse1011 => (intro w hSw; (try dsimp only at hSw); go_simp; first | done | with_reducible rfl)
            simp only [Act.put, List.setIfInBounds_toArray, List.set_cons_zero, List.set_cons_succ]
            refine wpAnyH_take (i := 11) (oi := ⟨some 59, .fieldAddr 80 (.tmp 58) 1, 0, "ref.go:130", #[⟨10, .data⟩], none⟩) (v := ?vdse1012) rfl (by kernel_rfl) (by kernel_rfl) (by kernel_rfl) (fun _ _ _ h => h) (Or.inl ⟨by rfl, ?ydse1012⟩) hk ?rdse1012
            case ydse1012 => (intro w hSw; (try dsimp only at hSw); go_simp; first | done | with_reducible rfl)
            simp only [Act.put, List.setIfInBounds_toArray, List.set_cons_zero, List.set_cons_succ]
            refine wpAnyH_take (i := 12) (oi := ⟨some 60, .load 78 (.tmp 59), 78, "ref.go:130", #[⟨11, .data⟩], none⟩) (v := ?vdse1013) rfl (by kernel_rfl) (by kernel_rfl) (by kernel_rfl) (fun _ _ _ h => h) (Or.inl ⟨by rfl, ?ydse1013⟩) hk ?rdse1013
            case ydse1013 => (intro w hSw; have hcw := hSw.1.c1; clear hSw; go_simp; first | done | with_reducible rfl)
            simp only [Act.put, List.setIfInBounds_toArray, List.set_cons_zero, List.set_cons_succ]
            refine wpAnyH_take (i := 13) (oi := ⟨some 61, .move (.tmp 3), 3, "ref.go:130", #[], none⟩) (v := ?vdse1014) rfl (by kernel_rfl) (by kernel_rfl) (by kernel_rfl) (fun _ _ _ h => h) (Or.inl ⟨by rfl, ?ydse1014⟩) hk ?rdse1014
            case ydse1014 => (intro w hSw; (try dsimp only at hSw); go_simp; first | done | with_reducible rfl)
            simp only [Act.put, List.setIfInBounds_toArray, List.set_cons_zero, List.set_cons_succ]
            refine wpAnyH_take (i := 14) (oi := ⟨some 62, .indexAddr 78 (.tmp 60) (.tmp 61), 0, "ref.go:130", #[⟨12, .data⟩, ⟨13, .data⟩], none⟩) (v := ?vdse1015) rfl (by kernel_rfl) (by kernel_rfl) (by kernel_rfl) (fun _ _ _ h => h) (Or.inl ⟨by rfl, ?ydse1015⟩) hk ?rdse1015
            case ydse1015 => (intro w hSw; (try dsimp only at hSw); go_simp; first | done | with_reducible rfl)
            simp only [Act.put, List.setIfInBounds_toArray, List.set_cons_zero, List.set_cons_succ]
            refine wpAnyH_take (i := 15) (oi := ⟨some 63, .fieldAddr 111 (.tmp 62) 1, 0, "ref.go:130", #[⟨14, .data⟩], none⟩) (v := ?vdse1016) rfl (by kernel_rfl) (by kernel_rfl) (by kernel_rfl) (fun _ _ _ h => h) (Or.inl ⟨by rfl, ?ydse1016⟩) hk ?rdse1016
            case ydse1016 => (intro w hSw; (try dsimp only at hSw); go_simp; first | done | with_reducible rfl)
            simp only [Act.put, List.setIfInBounds_toArray, List.set_cons_zero, List.set_cons_succ]
            refine wpAnyH_take (i := 16) (oi := ⟨some 64, .load 46 (.tmp 63), 46, "ref.go:130", #[⟨15, .data⟩], none⟩) (v := ?vdse1017) rfl (by kernel_rfl) (by kernel_rfl) (by kernel_rfl) (fun _ _ _ h => h) (Or.inl ⟨by rfl, ?ydse1017⟩) hk ?rdse1017
            case ydse1017 => (intro w hSw; have hcw := (hSw.1.ent hx.out).2.1.trans (congrArg some hxv.out); clear hSw; go_simp; first | done | with_reducible rfl)
            simp only [Act.put, List.setIfInBounds_toArray, List.set_cons_zero, List.set_cons_succ]
            refine wpAnyH_take (i := 17) (oi := ⟨some 65, .build 111 #[(0, .tmp 56), (1, .tmp 64), (2, .const (Value.bool true))], 111, "ref.go:130", #[⟨8, .data⟩, ⟨16, .data⟩], none⟩) (v := ?vdse1018) rfl (by kernel_rfl) (by kernel_rfl) (by kernel_rfl) (fun _ _ _ h => h) (Or.inl ⟨by rfl, ?ydse1018⟩) hk ?rdse1018
            case ydse1018 => (intro w hSw; (try dsimp only at hSw); go_simp; first | done | with_reducible rfl)
            simp only [Act.put, List.setIfInBounds_toArray, List.set_cons_zero, List.set_cons_succ]
            refine wpAnyH_ready (rs := [18]) (by decide +kernel) (by simp) ?_
            refine AllReadyH.cons (o := ⟨some 66, .buildSlice 78 1 #[(0, .tmp 65)], 78, "ref.go:130", #[⟨17, .data⟩], none⟩) rfl (fun K hK => ?_) AllReadyH.nil
            go_simp
            have hbA : Below wk.heap.size wk (wk.alloc (.cells #[.int .i64 x.pos, .slice (some ⟨bx, 0, none⟩) 64 cx, .bool true] 111)) := (Below.refl _ _).alloc (Nat.le_refl _) _
            have hnew := World.news_of_block (heap_alloc_new wk (.cells #[.int .i64 x.pos, .slice (some ⟨bx, 0, none⟩) 64 cx, .bool true] 111))
            replace hown := hown.alloc (.cells #[.int .i64 x.pos, .slice (some ⟨bx, 0, none⟩) 64 cx, .bool true] 111)
            replace hk := And.intro (hk.1.below hbA) (hk.2.trans (hbA.mono (by have h1 := hk.2.size; have h2 := HN.out; omega)))
            clear hbA
            generalize wk.heap.size = G at hnew ⊢
            generalize wk.alloc (.cells #[.int .i64 x.pos, .slice (some ⟨bx, 0, none⟩) 64 cx, .bool true] 111) = wk at hk hown hnew ⊢
            refine hK.out _ _ hk (fun _ => ?_)
            clear hK K
            try simp only [Act.put, List.setIfInBounds_toArray, List.set_cons_zero, List.set_cons_succ]
            refine wpAnyH_ready (rs := [19]) (by decide +kernel) (by simp) ?_
            refine AllReadyH.cons (o := ⟨some 67, .call { callee := .builtin Builtin.append, args := #[.tmp 48, .tmp 66], argTypes := #[78, 78] }, 78, "ref.go:130", #[⟨0, .data⟩, ⟨18, .data⟩], none⟩) rfl (fun K hK => ?_) AllReadyH.nil
            refine step_append_own rfl (.tmp 48) (.tmp 66) 78 rfl N 111 i0 (.agg #[.int .i64 0, .slice none 0 0, .bool false]) 3 40 Tryz.underlying78 hi0 hz0 hz1 hz2 rfl (by decide) vAll Y.length (ecl Y) rfl hown ⟨G, 0, none⟩ 1 1 [.int .i64 x.pos, .slice (some ⟨bx, 0, none⟩) 64 cx, .bool true] rfl rfl hnew hxo.out (by unfold maxLen; omega) (by omega) (by have h1 := hk.2.size; have h2 := HN.out; omega) ?_
            intro v9 w9 hown9 hgr9
            have hb9 : Below N wk w9 := (Below.refl _ _).grown hgr9 (by have h1 := hk.2.size; have h2 := HN.out; omega) (fun q hq => (hown.lt q hq).1)
            replace hk := And.intro (hk.1.keep (fun q hq => hb9.block q (HOL.out q hq)) hb9.size) (hk.2.trans hb9)
            clear hgr9 hown hnew hb9
            refine hK.out _ _ hk (fun _ => ?_)
            clear hK K
            try simp only [Act.put, List.setIfInBounds_toArray, List.set_cons_zero, List.set_cons_succ]
            refine wpAnyH_take (i := 20) (oi := ⟨some 2, .assign (.tmp 67), 78, "ref.go:130", #[⟨19, .data⟩, ⟨19, .chain⟩, ⟨0, .phase⟩, ⟨1, .phase⟩, ⟨2, .phase⟩, ⟨3, .phase⟩, ⟨4, .phase⟩, ⟨5, .phase⟩, ⟨6, .phase⟩, ⟨7, .phase⟩, ⟨8, .phase⟩, ⟨9, .phase⟩, ⟨10, .phase⟩, ⟨11, .phase⟩, ⟨12, .phase⟩, ⟨13, .phase⟩, ⟨14, .phase⟩, ⟨15, .phase⟩, ⟨16, .phase⟩, ⟨17, .phase⟩, ⟨18, .phase⟩, ⟨19, .phase⟩], none⟩) (v := ?vdse1019) rfl (by kernel_rfl) (by kernel_rfl) (by kernel_rfl) (fun _ _ _ h => h) (Or.inl ⟨by rfl, ?ydse1019⟩) hk ?rdse1019
            case ydse1019 => (intro w hSw; (try dsimp only at hSw); go_simp; first | done | with_reducible rfl)
            simp only [Act.put, List.setIfInBounds_toArray, List.set_cons_zero, List.set_cons_succ]
            refine wpAnyH_done (by decide +kernel) ?_ _
            have hown2 : w9.ownsRow N 111 3 v9 (Y ++ [{ x with sure := true }]).length (ecl (Y ++ [{ x with sure := true }])) := by
              rw [List.length_append, ecl_append, ecl_one]
              show w9.ownsRow N 111 3 v9 (Y.length + 1) (ecl Y ++ [.int .i64 x.pos, x.v, .bool true])
              rw [hxv.out]; exact hown9
            have hlow9 := hk.2
            clear hk hown9 hi0 hz0 hz1 hz2
            go_wp2
            go_roundw
            case rel => exact ⟨j + 1, by omega, by go_num, _, HYN, hown2, hlow9, by rw [List.length_append]; show Y.length + 1 ≤ j + 1; omega⟩
            case measure => simp [intOf]; omega
    · obtain rfl : j = X.length := by omega
      have HYE : Bx (Y = setl X) := ⟨by have := HY.out; rw [List.drop_length] at this; simpa [setl] using this⟩
      rw [HYE.out] at hown
      obtain ⟨aV, cV, e9, _, _⟩ := vl_form hown
      subst e9
      have f1 := hRr.fr 1
      have hV : ∀ q, (Value.slice aV (setl X).length cV).ownBlock = some q → N ≤ q ∧ q < wr.heap.size := fun q hq => hown.lt q hq
      have hNs : N ≤ wr.heap.size := by have h1 := hlow.size; have h2 := HN.out; omega
      have hRf := hRr.setList (own2 := fun q => own q ∨ (Value.slice aV (setl X).length cV).ownBlock = some q) (owns_base hown (Nat.zero_le _)) (fun z hz => by
        obtain ⟨y, hy, e1, e2, _⟩ := setl_mem X z hz
        exact (hRr.ents y hy).same e1 e2 (fun q hq => .inl hq)) (fun q hq => .inl hq) (fun q hq => .inr hq) (fun q hq => by
        rcases hq with hq | hq
        · have := HOL.out q hq; omega
        · exact (hV q hq).2)
      have HRF : Bx _ := ⟨hRf⟩
      have HKP : Bx (Kept own w (wr.setCell ⟨g, 1, none⟩ (Value.slice aV (setl X).length cV))) := ⟨(Kept.of_below (by rw [← HN.out]; exact hlow)).setCell (.inl hRr.og) 1 _⟩
      have HVB : Bx (∀ q, (Value.slice aV (setl X).length cV).ownBlock = some q → w.heap.size ≤ q) := ⟨fun q hq => by rw [← HN.out]; exact (hV q hq).1⟩
      clear hRr hown hlow hRf HY HYE hV hNs
      go_wp2
      go_end0
      exact ⟨⟨_, rfl⟩, _, _, HRF.out, HKP.out, fun q hq => by
        have hl := HRF.out.lt q hq
        rcases hq with hq | hq
        · exact .inl hq
        · exact .inr ⟨HVB.out q hq, hl⟩⟩
end Go.Proofs.YtjnjokbdoendkaaGreat
namespace Go.Proofs.YtjnjokbdoendkaaGreat
open Go.RowKit
set_option linter.unusedVariables false

set_option maxRecDepth 100000 in
set_option maxHeartbeats 400000 in
theorem rsync_any (g : Nat) (own : Nat → Prop) (s : DS) (m : Nat) (w : World) (h : RS w g own s m) (hok : s.Ok) (hm : m ≤ 1000) :
    Calls Tryz.prog 69 #[.pointer (some ⟨g, 0, none⟩)] w fun e w' => e = .returned (.int .i64 s.syE) ∧ ∃ own', RS w' g own' s.sy m ∧ Did own w w' own' := by
  have H : Bx (RS w g own s m) := ⟨h⟩
  obtain ⟨X, left, power, vl, hR, hS, hXm⟩ := h
  have c3 := hR.c3
  have HRB : Bx _ := ⟨hR⟩
  by_cases h1 : s.off = true
  · have HE : Bx (s.syE = 14 ∧ s.sy = s) := ⟨by simp [DS.syE, DS.sy, h1]⟩
    rw [show power = false from by rw [hS.power, h1]; rfl] at c3
    clear hR hS h1 hok
    go_enter Tryz.func69, Tryz.ntmps69
    go_wp2
    go_ret
    exact ⟨ret_int HE.out.1.symm, own, by rw [HE.out.2]; exact H.out, Did.same (Kept.refl _ _)⟩
  · have h1' : s.off = false := by simpa using h1
    obtain rfl : power = true := by rw [hS.power, h1']; rfl
    by_cases h6 : s.last = true
    · have hl0 : left = 0 := by have := hS.last; rw [h6] at this; exact of_decide_eq_true this.symm
      subst hl0
      have HE : Bx (s.syE = 14 ∧ s.sy = s.dead) := ⟨by simp [DS.syE, DS.sy, h1', h6]⟩
      have HSD : Bx _ := ⟨hS.dead⟩
      clear hR hS h1 h1' h6 hok
      go_enter Tryz.func69, Tryz.ntmps69
      go_wp2_with fail
      refine (goes_no g own _ X true vl _ HRB.out).mono ?_
      rintro e w1 ⟨rfl, hR1, hK1⟩
      go_wp2
      go_ret
      exact ⟨ret_int HE.out.1.symm, own, by rw [HE.out.2]; exact ⟨X, 0, false, vl, hR1, HSD.out, hXm⟩, Did.same hK1⟩
    · have h6' : s.last = false := by simpa using h6
      have hl0 : left ≠ 0 := by have := hS.last; rw [h6'] at this; exact of_decide_eq_false this.symm
      have HE : Bx (s.syE = 0) := ⟨by simp [DS.syE, h1', h6']⟩
      have HSS : Bx _ := ⟨hS.sy hok h1' h6'⟩
      have HFE : Bx (s.sy.F.length = s.F.length) := ⟨by
        have e : s.sy = { s.tick with F := app s.F s.O, O := [] } := by unfold DS.sy; rw [h1', h6']; rfl
        rw [e]; exact app_len _ _⟩
      clear hR hS h1 h1' h6 h6' hok
      go_enter Tryz.func69, Tryz.ntmps69
      go_wp2_with fail
      refine (goes_yes g own _ X left true vl _ HRB.out hl0).mono ?_
      rintro e w1 ⟨rfl, hR1, hK1⟩
      clear c3 hl0 HRB
      go_wp2_with fail
      refine (settle_any g own _ X (tickL left) true vl _ hR1 (by omega)).mono ?_
      rintro e w2 ⟨⟨u, rfl⟩, own2, vl2, hR2, hdid2⟩
      clear hR1
      go_wp2
      go_ret
      exact ⟨ret_int HE.out.symm, own2, ⟨_, _, _, vl2, by rw [HFE.out]; exact hR2, HSS.out, Nat.le_trans (setl_len X) hXm⟩, (Did.same hK1).trans hdid2⟩
end Go.Proofs.YtjnjokbdoendkaaGreat
