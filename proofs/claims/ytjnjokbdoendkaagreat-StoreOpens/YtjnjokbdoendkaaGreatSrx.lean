/- What the small calls of the document's own disk answer. What Write of the document's own disk does. -/
import Derived.Test.YtjnjokbdoendkaaGreatSrm
import Derived.Test.YtjnjokbdoendkaaGreatSds
import Derived.Test.YtjnjokbdoendkaaGreatAppBts
import Derived.Deep.AppendLies
namespace Go.Proofs.YtjnjokbdoendkaaGreat
open Go.RowKit
set_option linter.unusedVariables false

set_option maxRecDepth 100000 in
theorem vl_form {w : World} {v : Value} {base : Nat} {e : TypeId} {size n : Nat} {xs : List Value} (h : w.ownsRow base e size v n xs) : ∃ a c, v = .slice a n c ∧ n ≤ c ∧ c ≤ 9223372036854775807 := by
  rcases h.2 with ⟨rfl, rfl⟩ | ⟨g, cap, cur, rfl, _, _, h1, h2, _⟩
  · exact ⟨_, _, rfl, Nat.le_refl _, Nat.zero_le _⟩
  · unfold maxLen at h2
    exact ⟨_, _, rfl, h1, by omega⟩
set_option maxRecDepth 100000 in
set_option maxHeartbeats 400000 in
theorem rnew_any (n : Nat) (w : World) (h1 : 1 ≤ n) (h2 : n ≤ 4096) :
    Calls Tryz.prog 10 #[.int .i64 n] w fun e w' => ∃ g, e = .returned (.tuple #[.pointer (some ⟨g, 0, none⟩), .int .i64 0]) ∧ RS w' g (fun k => w.heap.size ≤ k ∧ k < w'.heap.size) (dnew n) 0 ∧ Below w.heap.size w w' := by
  have g1 : ¬ (n : Int) < 1 := by omega
  have g2 : ¬ (n : Int) > 4096 := by omega
  have hR : RS (w.alloc (.cells #[.int .i64 n, .slice none 0 0, .int .i64 (-1), .bool true] 80)) w.heap.size (fun k => w.heap.size ≤ k ∧ k < (w.alloc (.cells #[.int .i64 n, .slice none 0 0, .int .i64 (-1), .bool true] 80)).heap.size) (dnew n) 0 := by
    refine ⟨[], -1, true, .slice none 0 0, ⟨?_, World.ownsRow_nil _ _ _ _, (by intro x hx; cases hx), ⟨Nat.le_refl _, by simp⟩, (by intro k hk; simp [Value.ownBlock] at hk), fun k hk => hk.2, by decide, by simpa [dnew] using h2⟩, sim_new n, Nat.le_refl _⟩
    rw [heap_alloc_new]
    simp [dnew]
  have HR : Bx _ := ⟨hR⟩
  have HB : Bx (Below w.heap.size w (w.alloc (.cells #[.int .i64 n, .slice none 0 0, .int .i64 (-1), .bool true] 80))) := ⟨(Below.refl _ _).alloc (Nat.le_refl _) _⟩
  clear hR
  go_enter Tryz.func10, Tryz.ntmps10
  go_wp2
  go_ret2
  exact ⟨_, rfl, HR.out, HB.out⟩
set_option maxHeartbeats 400000 in
theorem goes_no (g : Nat) (own : Nat → Prop) (n : Nat) (X : List Ent) (power : Bool) (vl : Value) (w : World) (h : Rf w g own n X 0 power vl) :
    Calls Tryz.prog 103 #[.pointer (some ⟨g, 0, none⟩)] w fun e w' => e = .returned (.bool false) ∧ Rf w' g own n X 0 false vl ∧ Kept own w w' := by
  have c2 := h.c2
  have c3 := h.c3
  have f3 := h.fr 3
  have HD : Bx _ := ⟨h.setPower false⟩
  have HK : Bx (Kept own w (w.setCell ⟨g, 3, none⟩ (.bool false))) := ⟨(Kept.refl own w).setCell (.inl h.og) 3 _⟩
  clear h
  go_enter Tryz.func103, Tryz.ntmps103
  go_wp2
  go_ret
  exact ⟨rfl, HD.out, HK.out⟩
set_option maxHeartbeats 400000 in
theorem goes_yes (g : Nat) (own : Nat → Prop) (n : Nat) (X : List Ent) (left : Int) (power : Bool) (vl : Value) (w : World) (h : Rf w g own n X left power vl) (hl : left ≠ 0) :
    Calls Tryz.prog 103 #[.pointer (some ⟨g, 0, none⟩)] w fun e w' => e = .returned (.bool true) ∧ Rf w' g own n X (tickL left) power vl ∧ Kept own w w' := by
  have c2 := h.c2
  have f2 := h.fr 2
  have hlb := h.lb
  have hq : (left == 0) = false := by simpa using hl
  by_cases hp : left > 0
  · have e : tickL left = left - 1 := by unfold tickL; rw [if_pos hp]
    have HD : Bx (Rf (w.setCell ⟨g, 2, none⟩ (.int .i64 (left - 1))) g own n X (tickL left) power vl) := ⟨by rw [e]; exact h.setLeft (left - 1) (by omega)⟩
    have HK : Bx (Kept own w (w.setCell ⟨g, 2, none⟩ (.int .i64 (left - 1)))) := ⟨(Kept.refl own w).setCell (.inl h.og) 2 _⟩
    clear h e hl
    go_enter Tryz.func103, Tryz.ntmps103
    go_wp2
    go_ret
    exact ⟨rfl, HD.out, HK.out⟩
  · have e : tickL left = left := by unfold tickL; rw [if_neg hp]
    have HD : Bx (Rf w g own n X (tickL left) power vl) := ⟨by rw [e]; exact h⟩
    clear h e hl
    go_enter Tryz.func103, Tryz.ntmps103
    go_wp2
    go_ret
    exact ⟨rfl, HD.out, Kept.refl _ _⟩
set_option maxRecDepth 100000 in
theorem made_s0 : (madeCells #[Value.int .u8 0] 64).toList = bv s0 := by kernel_rfl
set_option maxRecDepth 100000 in
set_option maxHeartbeats 400000 in
theorem rbytes_any (g : Nat) (own : Nat → Prop) (n : Nat) (X : List Ent) (left : Int) (power : Bool) (vl : Value) (x : Int) (w : World) (h : Rf w g own n X left power vl) (hm : X.length ≤ 1000) :
    Calls Tryz.prog 65 #[.pointer (some ⟨g, 0, none⟩), .int .i64 x] w fun e w' => ∃ a c, e = .returned (.slice a 64 c) ∧ Bts w' a 64 c (lstX X x s0) ∧ Below w.heap.size w w' := by
  obtain ⟨a, c, rfl, hc1, hc2⟩ := vl_form h.lst
  have c1 := h.c1
  have HR : Bx _ := ⟨h⟩
  clear h
  go_enter Tryz.func65, Tryz.ntmps65
  go_wp2
  go_loopw [5] (fun i wr => ∃ j : Nat, j ≤ X.length ∧ i = .int .i64 ((j : Int) - 1) ∧ Bx (anyX (X.drop j) x = false) ∧ wr = w) (fun i _ => (intOf i + 1).toNat)
  case atStart => exact ⟨X.length, Nat.le_refl _, rfl, ⟨by rw [List.drop_length]; rfl⟩, rfl⟩
  case round =>
    obtain ⟨j, hj, rfl, HA, hwr⟩ := hrel
    subst hwr
    by_cases hz : 0 < j
    · obtain ⟨t, rfl⟩ : ∃ t, j = t + 1 := ⟨j - 1, by omega⟩
      have hlt : t < X.length := by omega
      have hI : (t : Int) < (X.length : Int) := by omega
      have e1 : ((t + 1 : Nat) : Int) - 1 = (t : Int) := by omega
      have hge : decide ((t : Int) ≥ 0) = true := by simp
      obtain ⟨gl, y, rfl, hy, k0, k1, k2⟩ := HR.out.nth t hlt
      have hmem : y ∈ X := List.mem_of_getElem? hy
      have HAR := anyX_round X t y x hy
      by_cases hp : y.pos = x
      · have HL : Bx (lstX X x s0 = y.l) := ⟨lstX_hit X t y x s0 hy hp HA.out⟩
        obtain ⟨b, cb, e2, hb⟩ := (HR.out.ents y hmem).bts
        rw [hp] at k0
        rw [e2] at k1
        have HBT : Bx _ := ⟨hb⟩
        clear HAR hy hmem hp e2 hb k2
        rw [e1]
        clear e1
        go_wp2
        go_ret
        exact ⟨_, _, rfl, by rw [HL.out]; exact HBT.out, Below.refl _ _⟩
      · have hpq : (y.pos == x) = false := by simpa using hp
        have HAN : Bx (anyX (X.drop t) x = false) := ⟨by rw [HAR, HA.out, decide_eq_false hp]; rfl⟩
        generalize y.pos = yp at k0 hpq
        clear HAR hy hmem hp k1 k2
        rw [e1]
        clear e1
        go_wp2
        go_roundw
        case rel => exact ⟨t, by omega, by go_num, HAN, by first | rfl | trivial⟩
        case measure => simp [intOf]
    · obtain rfl : j = 0 := by omega
      have HL : Bx (lstX X x s0 = s0) := ⟨lstX_none X x s0 (by have := HA.out; rwa [List.drop_zero] at this)⟩
      obtain ⟨i0, hi0, hz0, hz1, hz2⟩ := info_parts Tryz.info5
      go_wp2_with (at_make; refine wpList_make_full _ rfl _ _ 46 rfl wr.heap.size 5 i0 (.int .u8 0) 1 Tryz.underlying46 hi0 hz0 hz1 _ _ _ _ 64 rfl rfl rfl rfl (by rw [hz2]; decide) (by decide) (Nat.le_refl _) ?_)
      intro w1 hown hgrow
      have hb1 : Below wr.heap.size wr w1 := (Below.refl _ _).grown hgrow (Nat.le_refl _) (by intro k hk; cases hk)
      rw [made_s0] at hown
      obtain ⟨a9, c9, e9, h9⟩ := Bts.of_owns hown s0_sx.2
      cases e9
      clear hown hgrow hi0 hz0 hz1 hz2
      go_wp2
      go_ret
      exact ⟨_, _, rfl, by rw [HL.out]; exact h9, hb1⟩
end Go.Proofs.YtjnjokbdoendkaaGreat
namespace Go.Proofs.YtjnjokbdoendkaaGreat
open Go.RowKit
set_option linter.unusedVariables false

set_option maxRecDepth 100000 in
theorem own_some {g4 n c k : Nat} (h : (Value.slice (some ⟨g4, 0, none⟩) n c).ownBlock = some k) : k = g4 := by
  have : g4 = k := by simpa [Value.ownBlock] using h
  exact this.symm
set_option maxRecDepth 100000 in
theorem Rf.more {w w4 : World} {g : Nat} {own own1 : Nat → Prop} {n : Nat} {X : List Ent} {left : Int} {power : Bool} {vl : Value} {x : Ent} {g4 c4 : Nat} (h : Rf w g own n X left power vl) (h1 : ∀ k, own k → own1 k) (hlt : ∀ k, own1 k → k < w.heap.size) (hx : RowAt w own1 x)
    (hgr : w.grownBy w4 vl.ownBlock) (hown : w4.ownsRow 0 111 3 (.slice (some ⟨g4, 0, none⟩) (X.length + 1) c4) (X.length + 1) (ecl X ++ [.int .i64 x.pos, x.v, .bool x.sure])) (hl : vl.ownBlock = some g4 ∨ g4 = w.heap.size) (hlt4 : g4 < w4.heap.size) :
    w4.cell? ⟨g, 1, none⟩ = some vl ∧ w4.frozen? ⟨g, 1, none⟩ = false ∧ Bx (Rf (w4.setCell ⟨g, 1, none⟩ (.slice (some ⟨g4, 0, none⟩) (X.length + 1) c4)) g (fun k => own1 k ∨ k = g4) n (X ++ [x]) left power (.slice (some ⟨g4, 0, none⟩) (X.length + 1) c4)) := by
  have hg1 : w4.heap[g]? = w.heap[g]? := hgr.block g (h.lt g h.og) (fun e => (h.vl_ne e.symm) rfl)
  have hrow := hg1.trans h.row
  have hkb : ∀ k cs, own1 k → w.heap[k]? = some (.cells cs 5 (0, 0)) → w4.heap[k]? = w.heap[k]? := fun k cs hk hc => by
    refine hgr.block k (hlt k hk) (fun e => ?_)
    rcases h.lst.2 with ⟨h3, _⟩ | ⟨g', cap', cur, hv, _, hh, _⟩
    · rw [h3] at e; simp [Value.ownBlock] at e
    · rw [hv] at e
      have e : k = g' := by simpa [Value.ownBlock] using e
      rw [e, hh] at hc
      injection hc with hc; injection hc with _ h2 _; exact absurd h2 (by decide)
  refine ⟨by rw [cell_of_row _ _ 1 _ _ (0, 0) hrow]; rfl, frozen_of_row _ _ 1 _ _ hrow, ⟨?_⟩⟩
  have hsz := hgr.size
  have hl4 : w4.ownsRow 0 111 3 (.slice (some ⟨g4, 0, none⟩) (X.length + 1) c4) (X ++ [x]).length (ecl (X ++ [x])) := by
    rw [List.length_append, ecl_append, ecl_one]; exact hown
  have he4 : ∀ y ∈ X ++ [x], RowAt w4 (fun k => own1 k ∨ k = g4) y := fun y hy => by
    rcases List.mem_append.1 hy with hy | hy
    · exact (h.ents y hy).keep (fun k cs hk hc => hkb k cs (h1 k hk) hc) (fun k hk => .inl (h1 k hk))
    · rw [List.mem_singleton.1 hy]
      exact hx.keep hkb (fun k hk => .inl hk)
  refine ⟨heap_setCell_same w4 g 1 _ _ _ hrow, ⟨hl4.1, ?_⟩, fun y hy => (he4 y hy).keep (fun k cs hk hc => heap_setCell_other w4 ⟨g, 1, none⟩ k _ (fun e => ?_)) (fun _ h => h), .inl (h1 g h.og), fun k hk => .inr (own_some hk), fun k hk => ?_, h.lb, h.nb⟩
  · rcases hl4.2 with h2 | ⟨g', cap', cur, hv, hg, hh, r⟩
    · exact .inl h2
    · refine .inr ⟨g', cap', cur, hv, hg, (heap_setCell_other w4 ⟨g, 1, none⟩ g' _ (fun e => ?_)).trans hh, r⟩
      have e : g' = g := e
      rw [e, hrow] at hh
      injection hh with hh; injection hh with _ h2 _; exact absurd h2 (by decide)
  · have e : k = g := e
    rw [e, hrow] at hc
    injection hc with hc; injection hc with _ h2 _; exact absurd h2 (by decide)
  · have hs : (w4.setCell ⟨g, 1, none⟩ (.slice (some ⟨g4, 0, none⟩) (X.length + 1) c4)).heap.size = w4.heap.size := by simp [World.setCell]
    rw [hs]
    rcases hk with hk | hk
    · exact Nat.lt_of_lt_of_le (hlt k hk) hsz
    · rw [hk]; exact hlt4
set_option maxRecDepth 100000 in
theorem one_bts0 (w : World) : Bts (w.alloc (.cells #[.int .u8 0] 5)) (some ⟨w.heap.size, 0, none⟩) 1 1 [0] := by
  refine ⟨rfl, Byt.cons (by decide) Byt.nil, Nat.le_refl _, by decide, (fun hh => by cases hh), fun _ => ⟨w.heap.size, 0, rfl, by simp, fun i hi => ?_⟩⟩
  obtain rfl : i = 0 := by omega
  rw [cell_of_row _ _ (0 + 0) _ _ (0, 0) (heap_alloc_new w (.cells #[.int .u8 0] 5))]; rfl
set_option maxRecDepth 100000 in
set_option maxHeartbeats 1000000 in
theorem rwrite_ok (g : Nat) (own : Nat → Prop) (n : Nat) (X : List Ent) (left : Int) (vl : Value) (k : Nat) (a : Option Addr) (len cap : Nat) (b : List Int) (w : World) (h : Rf w g own n X left true vl) (hbt : Bts w a len cap b) (hfar : 0 < len → ∀ p, a = some p → ¬ own p.block) (hl0 : left ≠ 0) (hkn : k < n) (hlen : len ≤ 64) (hX : X.length ≤ 1000) :
    Calls Tryz.prog 68 #[.pointer (some ⟨g, 0, none⟩), .int .i64 k, .slice a len cap] w fun e w' => e = .returned (.int .i64 0) ∧ ∃ own' v vl', Rf w' g own' n (X ++ [⟨k, v, pad64 b, false⟩]) (tickL left) true vl' ∧ Did own w w' own' := by
  have c0 := h.c0
  have c3 := h.c3
  have HR : Bx _ := ⟨h⟩
  have HBT : Bx (Bts w a len cap b) := ⟨hbt⟩
  have HF : Bx (0 < len → ∀ p, a = some p → ¬ own p.block) := ⟨hfar⟩
  have hg64 : ¬ (len : Int) > 64 := by omega
  have hkI : decide ((k : Int) ≥ (n : Int)) = false := by simp; omega
  have HBL : Bx (b.length = len) := ⟨hbt.len_eq⟩
  have HBY : Bx (Byt b) := ⟨hbt.byt⟩
  clear h hbt hfar
  go_enter Tryz.func68, Tryz.ntmps68
  go_wp2_with fail
  refine (goes_yes g own n X left true vl _ HR.out hl0).mono ?_
  rintro e w1 ⟨rfl, hR1, hK1⟩
  have hb1 := HBT.out.kept hK1 HF.out
  clear HR HBT HF c0 c3 hl0
  go_wp2_with fail
  refine (copy_any a len cap b _ hb1 (by omega)).mono ?_
  rintro e w2 ⟨v2, rfl, hown2, hb2⟩
  have hR0 : ∃ t : Nat, len + t ≤ 64 ∧ w2.ownsRow w1.heap.size 5 1 v2 (len + t) (bv (b ++ List.replicate t 0)) ∧ Below w1.heap.size w1 w2 := ⟨0, by omega, by simpa using hown2, hb2⟩
  clear hb1 hown2 hb2
  go_wp2
  go_loopw [7] (fun v wr => ∃ t : Nat, len + t ≤ 64 ∧ wr.ownsRow w1.heap.size 5 1 v (len + t) (bv (b ++ List.replicate t 0)) ∧ Below w1.heap.size w1 wr) (fun v _ => 64 - lenOf v)
  case atStart => exact hR0
  case round =>
    clear hR0
    obtain ⟨t, ht, hown, hlow⟩ := hrel
    obtain ⟨vAll, hvAll⟩ : ∃ vAll, vAll = u7 := ⟨_, rfl⟩
    subst hvAll
    have hby : Byt (b ++ List.replicate t 0) := HBY.out.append (fun c hc => by rw [List.eq_of_mem_replicate hc]; decide)
    obtain ⟨a9, c9, rfl, h9⟩ := Bts.of_owns hown hby
    by_cases hlt : len + t < 64
    · have hI : ((len + t : Nat) : Int) < 64 := by omega
      have HMO : Bx (b ++ List.replicate t 0 ++ [0] = b ++ List.replicate (t + 1) 0) := ⟨by rw [List.append_assoc, ← List.replicate_succ']⟩
      have hsz := hlow.size
      have hone := one_bts0 wr
      have hown3 := owns_new hown rfl (.cells #[.int .u8 0] 5)
      have hlow3 : Below w1.heap.size w1 (wr.alloc (.cells #[.int .u8 0] 5)) := hlow.alloc hsz _
      generalize b ++ List.replicate t 0 = bb at hown3 HMO
      clear hown hlow h9 hby
      generalize hm : len + t = mt at *
      go_wp2_with (at_builtin; refine wpList_append_bts rfl (.tmp 36) (.tmp 37) rfl w1.heap.size mt _ bb rfl hown3 _ 1 1 [0] rfl hone (by omega) hlow3.size ?_; intro v' w' ho' hb' _; have hlow4 := hlow3.trans hb'; rw [HMO.out] at ho'; clear hown3 hb' hlow3 hone)
      have ho2 : w'.ownsRow w1.heap.size 5 1 v' (len + (t + 1)) (bv (b ++ List.replicate (t + 1) 0)) := by rw [show len + (t + 1) = mt + 1 from by omega]; exact ho'
      obtain ⟨a8, c8, e8, _⟩ := Bts.of_owns ho2 (HBY.out.append (fun c hc => by rw [List.eq_of_mem_replicate hc]; decide))
      subst e8
      clear ho'
      go_wp2
      go_roundw
      case rel => exact ⟨t + 1, by omega, ho2, hlow4⟩
      case measure => simp [lenOf]; omega
    · obtain ⟨t64, ht64⟩ : ∃ t64, t64 = len + t := ⟨_, rfl⟩
      obtain rfl : t64 = 64 := by omega
      rw [← ht64] at hown h9 ⊢
      have HPD : Bx (b ++ List.replicate t 0 = pad64 b) := ⟨by unfold pad64; rw [HBL.out, show 64 - len = t from by omega]⟩
      rw [HPD.out] at hown
      have HRr : Bx _ := ⟨hR1.below hlow⟩
      have hPs : Sx (pad64 b) := pad64_sx HBY.out (by rw [HBL.out]; exact hlen)
      have HOW : Bx _ := ⟨hown⟩
      have hKr : Kept own w wr := hK1.below hlow
      have HKR : Bx (Kept own w wr) := ⟨hKr⟩
      have HLB : Bx (∀ q, (Value.slice a9 64 c9).ownBlock = some q → w1.heap.size ≤ q ∧ q < wr.heap.size) := ⟨fun q hq => hown.lt q hq⟩
      have HOL : Bx (∀ q, own q → q < w1.heap.size) := ⟨hR1.lt⟩
      have HWS : Bx (w.heap.size ≤ w1.heap.size) := ⟨hK1.size⟩
      have HWS2 : Bx (w1.heap.size ≤ wr.heap.size) := ⟨hlow.size⟩
      obtain ⟨al, cl, e9, hcl1, hcl2⟩ := vl_form HRr.out.lst
      subst e9
      have c1 := HRr.out.c1
      obtain ⟨i0, hi0, hz0, hz1, hz2⟩ := info_parts ref_info
      have HRA : Bx (RowAt wr (fun q => own q ∨ (Value.slice a9 64 c9).ownBlock = some q) ⟨k, .slice a9 64 c9, pad64 b, false⟩) := ⟨row_at HOW.out hPs (fun q hq => .inr hq) k false⟩
      obtain ⟨P, hPe⟩ : ∃ P, P = pad64 b := ⟨_, rfl⟩
      have HPE : Bx (P = pad64 b) := ⟨hPe⟩
      rw [← hPe] at HRA
      have HRW : Bx (Rf (wr.alloc (.cells #[.int .i64 k, .slice a9 64 c9, .bool false] 111)) g own n X (tickL left) true (.slice al X.length cl)) := ⟨HRr.out.below ((Below.refl _ _).alloc (Nat.le_refl _) _)⟩
      have HRA2 : Bx (RowAt (wr.alloc (.cells #[.int .i64 k, .slice a9 64 c9, .bool false] 111)) (fun q => own q ∨ (Value.slice a9 64 c9).ownBlock = some q) ⟨k, .slice a9 64 c9, P, false⟩) := ⟨HRA.out.keep (fun q cs hq hc => heap_alloc_old _ _ (Array.getElem?_eq_some_iff.1 hc).1) (fun _ h => h)⟩
      have HLT : Bx (∀ q, (own q ∨ (Value.slice a9 64 c9).ownBlock = some q) → q < (wr.alloc (.cells #[.int .i64 k, .slice a9 64 c9, .bool false] 111)).heap.size) := ⟨fun q hq => by
        have h2 := HWS2.out
        have h3 : (wr.alloc (.cells #[.int .i64 k, .slice a9 64 c9, .bool false] 111)).heap.size = wr.heap.size + 1 := by simp
        rw [h3]
        rcases hq with hq | hq
        · have := HOL.out q hq; omega
        · have := (HLB.out q hq).2; omega⟩
      have HKA : Bx (Kept own w (wr.alloc (.cells #[.int .i64 k, .slice a9 64 c9, .bool false] 111))) := ⟨HKR.out.alloc _⟩
      have HG1 : Bx (∀ q, (Value.slice al X.length cl).ownBlock = some q → own q) := ⟨HRr.out.ol⟩
      have HOG : Bx (own g) := ⟨HRr.out.og⟩
      clear hown h9 hby hlow hR1 hK1 hKr HOW ht64 HPD hPe hPs HRA HKR
      go_wp2_with (at_builtin; refine wpList_append_lies _ rfl (.tmp 43) (.tmp 47) 78 rfl 0 111 i0 (.agg #[.int .i64 0, .slice none 0 0, .bool false]) 3 40 Tryz.underlying78 hi0 hz0 hz1 hz2 rfl (by decide) (.slice al X.length cl) X.length (ecl X) rfl (HRr.out.lst.alloc _) ⟨wr.heap.size, 0, none⟩ 1 1 [.int .i64 k, .slice a9 64 c9, .bool false] rfl rfl (World.news_of_block (heap_alloc_new wr _)) (by simp [Value.oneCell']) (by decide) (by unfold maxLen; omega) (by omega) (Nat.zero_le _) _ rfl ?_; intro g4 cap4 w4 hown4 hgr4 hl4 hlt4; obtain ⟨k1, f1, HM⟩ := HRW.out.more (fun q hq => .inl hq) HLT.out HRA2.out hgr4 hown4 hl4 hlt4; have HKG : Bx (Kept own w (w4.setCell ⟨g, 1, none⟩ (.slice (some ⟨g4, 0, none⟩) (X.length + 1) cap4))) := ⟨(HKA.out.grown hgr4 (fun q hq => .inl (HG1.out q hq))).setCell (.inl HOG.out) 1 _⟩; have HNW : Bx (own g4 ∨ w.heap.size ≤ g4) := ⟨by (rcases hl4 with h1 | h1; exact .inl (HG1.out g4 h1); right; have h3 := HKA.out.size; omega)⟩; clear hown4 hgr4 hl4 hlt4)
      go_ret
      refine ⟨rfl, _, .slice a9 64 c9, _, by rw [← HPE.out]; exact HM.out, HKG.out, fun q hq => ?_⟩
      have hlt9 := HM.out.lt q hq
      rcases hq with (hq | hq) | hq
      · exact .inl hq
      · have h1 := HLB.out q hq
        have h2 := HWS.out
        exact .inr ⟨by omega, hlt9⟩
      · rw [hq] at hlt9 ⊢
        rcases HNW.out with h1 | h1
        · exact .inl h1
        · exact .inr ⟨h1, hlt9⟩
set_option maxRecDepth 100000 in
set_option maxHeartbeats 400000 in
theorem rwrite_any (g : Nat) (own : Nat → Prop) (s : DS) (m : Nat) (x : Int) (a : Option Addr) (len cap : Nat) (b : List Int) (w : World) (h : RS w g own s m) (hok : s.Ok) (hm : m ≤ 999) (hbt : Bts w a len cap b) (hfar : 0 < len → ∀ p, a = some p → ¬ own p.block) :
    Calls Tryz.prog 68 #[.pointer (some ⟨g, 0, none⟩), .int .i64 x, .slice a len cap] w fun e w' => e = .returned (.int .i64 (s.wrE x b)) ∧ ∃ own', RS w' g own' (s.wr x b) (m + 1) ∧ Did own w w' own' := by
  have H : Bx (RS w g own s (m + 1)) := ⟨h.le (by omega)⟩
  obtain ⟨X, left, power, vl, hR, hS, hXm⟩ := h
  have c0 := hR.c0
  have c3 := hR.c3
  have hbl := hbt.len_eq
  have hcc := hbt.le_cap
  have hcm := hbt.cap_le
  unfold maxLen at hcm
  by_cases h1 : s.off = true
  · have HE : Bx (s.wrE x b = 14 ∧ s.wr x b = s) := ⟨by simp [DS.wrE, DS.wr, h1]⟩
    rw [show power = false from by rw [hS.power, h1]; rfl] at c3
    clear hR hS h1 hbt hfar hbl hok
    go_enter Tryz.func68, Tryz.ntmps68
    go_wp2
    go_ret
    exact ⟨ret_int HE.out.1.symm, own, by rw [HE.out.2]; exact H.out, Did.same (Kept.refl _ _)⟩
  · have h1' : s.off = false := by simpa using h1
    obtain rfl : power = true := by rw [hS.power, h1']; rfl
    by_cases h2 : s.fits x b = true
    · obtain ⟨h3, h4, h5⟩ := DS.fits_iff.1 h2
      obtain ⟨k, rfl⟩ : ∃ k : Nat, x = k := ⟨x.toNat, by omega⟩
      by_cases h6 : s.last = true
      · have hl0 : left = 0 := by have := hS.last; rw [h6] at this; exact of_decide_eq_true this.symm
        subst hl0
        have HE : Bx (s.wrE k b = 14 ∧ s.wr k b = s.dead) := ⟨by simp [DS.wrE, DS.wr, h1', h2, h6]⟩
        have HSD : Bx _ := ⟨hS.dead⟩
        have HRB : Bx _ := ⟨hR⟩
        have g1 : ¬ (len : Int) > 64 := by omega
        have g3 : decide ((k : Int) ≥ (s.F.length : Int)) = false := by simp; omega
        generalize hnn : s.F.length = nn at c0 g3 HRB h4
        have HNN : Bx (s.F.length = nn) := ⟨hnn⟩
        clear hR hS h1 h1' h2 h5 h6 hbt hfar hbl hok hnn
        go_enter Tryz.func68, Tryz.ntmps68
        go_wp2_with fail
        refine (goes_no g own nn X true vl _ HRB.out).mono ?_
        rintro e w1 ⟨rfl, hR1, hK1⟩
        go_wp2
        go_ret
        exact ⟨ret_int HE.out.1.symm, own, by rw [HE.out.2]; exact ⟨X, 0, false, vl, by show Rf w1 g own s.F.length X 0 false vl; rw [HNN.out]; exact hR1, HSD.out, by omega⟩, Did.same hK1⟩
      · have h6' : s.last = false := by simpa using h6
        have hl0 : left ≠ 0 := by have := hS.last; rw [h6'] at this; exact of_decide_eq_false this.symm
        have e1 : s.wrE k b = 0 := by simp [DS.wrE, h1', h2, h6']
        have hfe : (s.wr k b).F.length = s.F.length := by
          have e2 : s.wr k b = { s.tick with O := s.O ++ [(((k : Int)).toNat, pad64 b)] } := by unfold DS.wr; rw [h1', h2, h6']; rfl
          rw [e2]; rfl
        rw [e1]
        refine (rwrite_ok g own s.F.length X left vl k a len cap b w hR hbt hfar hl0 (by omega) (by omega) (by omega)).mono ?_
        rintro e w' ⟨rfl, own', v, vl', hR', hdid⟩
        exact ⟨rfl, own', ⟨_, _, _, vl', by rw [hfe]; exact hR', hS.wr hok k b v h1' h2 h6', by rw [List.length_append]; show X.length + 1 ≤ m + 1; omega⟩, hdid⟩
    · have HE : Bx (s.wrE x b = 2 ∧ s.wr x b = s) := ⟨by simp [DS.wrE, DS.wr, h1', h2]⟩
      have hnf : ¬ (0 ≤ x ∧ x < s.F.length ∧ b.length ≤ 64) := fun hh => h2 (DS.fits_iff.2 hh)
      by_cases h3 : x < 0
      · have g2 : decide (x < 0) = true := by simpa using h3
        clear hR hS h1 h1' h2 hbt hfar hbl hok hnf
        go_enter Tryz.func68, Tryz.ntmps68
        go_wp2
        go_ret
        exact ⟨ret_int HE.out.1.symm, own, by rw [HE.out.2]; exact H.out, Did.same (Kept.refl _ _)⟩
      · have g2 : decide (x < 0) = false := by simpa using h3
        by_cases h4 : x ≥ (s.F.length : Int)
        · have g3 : decide (x ≥ (s.F.length : Int)) = true := by simpa using h4
          generalize s.F.length = nn at c0 g3 h4
          clear hR hS h1 h1' h2 hbt hfar hbl hok hnf
          go_enter Tryz.func68, Tryz.ntmps68
          go_wp2
          go_ret
          exact ⟨ret_int HE.out.1.symm, own, by rw [HE.out.2]; exact H.out, Did.same (Kept.refl _ _)⟩
        · have g3 : decide (x ≥ (s.F.length : Int)) = false := by simpa using h4
          have g4 : (len : Int) > 64 := by
            have : ¬ b.length ≤ 64 := fun hh => hnf ⟨by omega, by omega, hh⟩
            omega
          generalize s.F.length = nn at c0 g3 h4
          clear hR hS h1 h1' h2 hbt hfar hbl hok hnf
          go_enter Tryz.func68, Tryz.ntmps68
          go_wp2
          go_ret
          exact ⟨ret_int HE.out.1.symm, own, by rw [HE.out.2]; exact H.out, Did.same (Kept.refl _ _)⟩
end Go.Proofs.YtjnjokbdoendkaaGreat
