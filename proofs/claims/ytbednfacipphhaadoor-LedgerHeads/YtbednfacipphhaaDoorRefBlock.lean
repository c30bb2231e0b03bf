/- What the document's Block answers. -/
import Derived.Test.YtbednfacipphhaaDoorAuaw
namespace Go.Proofs.YtbednfacipphhaaDoor
open Go.RowKit
set_option linter.unusedVariables false

set_option maxRecDepth 100000 in
theorem in_slice (N k : Nat) (hk : k < 16) (w : World) : (Instr.sliceAt 105 (.pointer (some ⟨N + 1, 0, none⟩)) (some (.int .i64 (4 * (k : Int)))) (some (.int .i64 (4 * (k : Int) + 4))) none).run Tryd.prog w = .ok (.slice (some ⟨N + 1, 4 * k, none⟩) 4 (64 - 4 * k)) w := by
  have hlen : Tryd.prog.arrayLen 105 = 64 := by kernel_rfl
  have ht : Tryd.prog.underlying 105 = some (.array (Tryd.prog.arrayLen 105) (Tryd.prog.elem 105)) := by kernel_rfl
  have hsz : (sizeOf (Tryd.prog.elem 105)).run Tryd.prog w = .ok 1 w := by kernel_rfl
  rw [run_sliceAt_array_lh w 105 ⟨N + 1, 0, none⟩ ht .i64 .i64 _ _ (by omega) (by omega) (by rw [hlen]; omega), hsz, hlen]
  have e1 : (4 * (k : Int)).toNat = 4 * k := by omega
  have e2 : (4 * (k : Int) + 4).toNat = 4 * k + 4 := by omega
  simp only [Result.andThen_ok, slicedAt, e1, e2]
  rw [if_neg (by omega), Addr.add_lit]
  simp
set_option maxRecDepth 100000 in
theorem refturn_q (x n : Int) (w : World) (hx : U32 x) (hn0 : -9223372036854775808 ≤ n) (hn1 : n ≤ 9223372036854775807) :
    Calls Tryd.prog 92 #[.int .u32 x, .int .i64 n] w fun e w' => e = .returned (.int .u32 (turnV x n)) ∧ w' = w :=
  (refturn_any x n w hx.1 hx.2 hn0 hn1).mono fun _ _ h => ⟨h.1, h.2.symm⟩
/-- what stays while Block goes on: its two arguments and the place of its answer, from the block N on -/
structure KeptB (N : Nat) (s : St) (b : List Int) (w wr : World) : Prop where
  low : Below N w wr
  size : N + 3 ≤ wr.heap.size
  st : wr.heap[N]? = some (.cells s.cells 103 (0, 0))
  inp : wr.heap[N + 1]? = some (.cells (bv b).toArray 105 (0, 0))
  res : ∃ cs : Array Value, cs.size = 8 ∧ wr.heap[N + 2]? = some (.cells cs 103 (0, 0))
set_option maxRecDepth 100000 in
theorem KeptB.drewN {N : Nat} {s : St} {b : List Int} {w wr : World} (h : KeptB N s b w wr) (n : Nat) : KeptB N s b w (wr.drewN n) := ⟨below_drewN h.low n, h.size, h.st, h.inp, h.res⟩
set_option maxRecDepth 100000 in
theorem KeptB.step {N : Nat} {s : St} {b : List Int} {w wr w1 : World} (h : KeptB N s b w wr) (hb : Below (N + 3) wr w1) : KeptB N s b w w1 :=
  ⟨h.low.trans (hb.mono (by omega)), Nat.le_trans h.size hb.size, by rw [hb.block _ (by omega)]; exact h.st, by rw [hb.block _ (by omega)]; exact h.inp,
    by obtain ⟨cs, h1, h2⟩ := h.res; exact ⟨cs, h1, by rw [hb.block _ (by omega)]; exact h2⟩⟩

set_option maxRecDepth 100000 in
set_option maxHeartbeats 1000000 in
theorem refblock_any (s : St) (b : List Int) (w : World) (hs : StU s) (hb : Byt b) (hl : b.length = 64) :
    Calls Tryd.prog 67 #[.agg s.cells, .agg (bv b).toArray] w fun e w' => e = .returned (.agg (blk s b).cells) ∧ Below w.heap.size w w' := by
  obtain ⟨i0, hi, hz0, hz1, hz2⟩ := info_parts Tryd.info32
  have HL : Hid (b.length = 64) := hl
  clear hl
  go_enter Tryd.func67, Tryd.ntmps67
  go_wp2
  obtain ⟨N, hN⟩ : ∃ N, N = w.heap.size := ⟨_, rfl⟩
  have hkept : KeptB N s b w (((w.alloc (.cells s.cells 103)).alloc (.cells (bv b).toArray 105)).alloc (.cells #[.int .u32 0, .int .u32 0, .int .u32 0, .int .u32 0, .int .u32 0, .int .u32 0, .int .u32 0, .int .u32 0] 103)) := by
    subst hN
    refine ⟨(((Below.refl _ _).alloc (Nat.le_refl _) _).alloc (by simp) _).alloc (by simp; omega) _, by simp, ?_, ?_, #[.int .u32 0, .int .u32 0, .int .u32 0, .int .u32 0, .int .u32 0, .int .u32 0, .int .u32 0, .int .u32 0], rfl, ?_⟩
    · rw [heap_alloc_old _ _ (by simp; omega), heap_alloc_old _ _ (by simp), heap_alloc_new]
    · rw [heap_alloc_old _ _ (by simp), show w.heap.size + 1 = (w.alloc (.cells s.cells 103)).heap.size from by simp, heap_alloc_new]
    · rw [show w.heap.size + 2 = ((w.alloc (.cells s.cells 103)).alloc (.cells (bv b).toArray 105)).heap.size from by simp, heap_alloc_new]
  generalize ((w.alloc (.cells s.cells 103)).alloc (.cells (bv b).toArray 105)).alloc (.cells #[.int .u32 0, .int .u32 0, .int .u32 0, .int .u32 0, .int .u32 0, .int .u32 0, .int .u32 0, .int .u32 0] 103) = W0 at hkept ⊢
  rw [← hN]
  have HN : Hid (N = w.heap.size) := hN
  clear hN
  go_loopw [5, 6] (fun v i wr => ∃ k : Nat, k ≤ 16 ∧ i = .int .i64 k ∧ wr.ownsRow (N + 3) 102 1 v k (uv (sch b k)) ∧ KeptB N s b w wr) (fun _ i _ => 16 - (intOf i).toNat)
  case atStart => exact ⟨0, Nat.zero_le _, rfl, World.ownsRow_nil _ _ _ _, hkept⟩
  case round =>
    obtain ⟨k, hk, rfl, hown, hkp⟩ := hrel
    clear hkept
    by_cases hlt : k < 16
    ·
      have hbt : Bts wr (some ⟨N + 1, 4 * k, none⟩) 4 (64 - 4 * k) ((b.drop (4 * k)).take 4) :=
        Bts.pieceB (n := 64) (fun j hj => bv_cell hkp.inp j hj) hb (by have := hkp.size; omega) (4 * k) 4 (64 - 4 * k) (by rw [HL.out]; omega) (by omega) (by unfold maxLen; omega)
      have hu := w4_u b k hb
      have hu2 := hu.2
      have hu1 := hu.1
      have HS : Hid (sch b (k + 1) = sch b k ++ [w4 b k]) := sch_lo b k hlt
      have HW : Hid (getV ((b.drop (4 * k)).take 4) = w4 b k) := rfl
      have hsl := in_slice N k hlt
      go_wp2_with fail
      refine (refget_some _ 4 _ _ _ hbt (by decide) (by decide)).mono ?_
      rintro e w' ⟨rfl, rfl⟩
      rw [HW.out]
      have hsz := hkp.size
      go_wp2_with (at_builtin; refine wpList_append_own _ rfl _ _ 125 rfl (N + 3) 102 i0 (.int .u32 0) 1 4 Tryd.underlying125 hi hz0 hz1 hz2 rfl (by decide) _ _ _ rfl (hown.alloc _) ⟨wr.heap.size, 0, none⟩ 1 1 [.int .u32 (w4 b k)] rfl rfl (cell_one_new _ _ _) (uv_one [w4 b k]) (by unfold maxLen; omega) (by omega) (by simp; omega) ?_)
      intro v' w1 hown' hgrow _
      have R := row_rel (Below.refl _ _) hsz hown hown' hgrow HS.out
      have hkp1 := hkp.step R.2
      clear hown' hgrow hown hkp hbt hsl
      go_wp2
      go_roundw
      case rel => exact ⟨k + 1, by omega, by go_num, R.1, hkp1⟩
      case measure => simp [intOf]; omega
    · have HK1 : Hid (k = 16) := by show k = 16; omega
      go_wp2
      clear hlt hk
      go_loopw [5, 9] (fun v i wr => ∃ k : Nat, 16 ≤ k ∧ k ≤ 64 ∧ i = .int .i64 k ∧ wr.ownsRow (N + 3) 102 1 v k (uv (sch b k)) ∧ KeptB N s b w wr) (fun _ i _ => 64 - (intOf i).toNat)
      case atStart => exact ⟨16, by omega, by omega, rfl, by rw [← HK1.out]; exact hown, hkp⟩
      case round =>
        clear hown hkp HK1
        obtain ⟨k, hk1, hk2, rfl, hown, hkp⟩ := hrel
        obtain ⟨g, cap, rfl, hg0, hg1⟩ := owns_form hown (by omega)
        by_cases hlt : k < 64
        ·
          have hU := sch_u b k hb
          have c15 := row_cell hown (sch_length b k) (k - 15) (by omega)
          have c2 := row_cell hown (sch_length b k) (k - 2) (by omega)
          have c16 := row_cell hown (sch_length b k) (k - 16) (by omega)
          have c7 := row_cell hown (sch_length b k) (k - 7) (by omega)
          have u15 := hU.getD (k - 15)
          have u2 := hU.getD (k - 2)
          have u16 := hU.getD (k - 16)
          have u7 := hU.getD (k - 7)
          have HS : Hid (sch b (k + 1) = sch b k ++ [wx (sch b k) k]) := sch_hi b k hk1
          have HX : Hid (wx (sch b k) k = ad (ad (ad ((sch b k).getD (k - 16) 0) (sg0 ((sch b k).getD (k - 15) 0))) ((sch b k).getD (k - 7) 0)) (sg1 ((sch b k).getD (k - 2) 0))) := rfl
          clear hU
          generalize (sch b k).getD (k - 15) 0 = v15 at *
          generalize (sch b k).getD (k - 2) 0 = v2 at *
          generalize (sch b k).getD (k - 16) 0 = v16 at *
          generalize (sch b k).getD (k - 7) 0 = v7 at *
          have x1 := xr_eq (turn_u 7 u15) (turn_u 18 u15)
          have x2 := xr_eq (xr_u (turn_u 7 u15) (turn_u 18 u15)) (div_u u15 8 (by decide))
          have y1 := xr_eq (turn_u 17 u2) (turn_u 19 u2)
          have y2 := xr_eq (xr_u (turn_u 17 u2) (turn_u 19 u2)) (div_u u2 1024 (by decide))
          have d15 : v15.tdiv 8 % 4294967296 = v15 / 8 := by have h1 := u15.1; have h2 := u15.2; rw [Int.tdiv_eq_ediv_of_nonneg h1]; omega
          have d2 : v2.tdiv 1024 % 4294967296 = v2 / 1024 := by have h1 := u2.1; have h2 := u2.2; rw [Int.tdiv_eq_ediv_of_nonneg h1]; omega
          have b15 := u15.1
          have b2 := u2.1
          have hsz := hkp.size
          have k16 : (16 : Int) ≤ (k : Int) := by omega
          have k64 : (k : Int) < 64 := by omega
          go_wp2
          go_quiet ((go_at_call 92; exact Calls.quiet_of_same (refturn_q _ _ _ u15 (by decide) (by decide))))
          go_wp2
          replace c2 : (wr.drewN nq).cell? ⟨g, k - 2, none⟩ = some (.int .u32 v2) := c2
          replace c16 : (wr.drewN nq).cell? ⟨g, k - 16, none⟩ = some (.int .u32 v16) := c16
          replace c7 : (wr.drewN nq).cell? ⟨g, k - 7, none⟩ = some (.int .u32 v7) := c7
          replace hown := owns_drewN hown nq
          replace hkp := hkp.drewN nq
          replace hsz := hkp.size
          clear c15 hg1
          generalize wr.drewN nq = wq at c2 c16 c7 hown hkp hsz ⊢
          go_quiet ((go_at_call 92; exact Calls.quiet_of_same (refturn_q _ _ _ u2 (by decide) (by decide))))
          go_wp2
          replace c16 : (wq.drewN nq).cell? ⟨g, k - 16, none⟩ = some (.int .u32 v16) := c16
          replace c7 : (wq.drewN nq).cell? ⟨g, k - 7, none⟩ = some (.int .u32 v7) := c7
          replace hown := owns_drewN hown nq
          replace hkp := hkp.drewN nq
          replace hsz := hkp.size
          clear c2
          generalize wq.drewN nq = wp at c16 c7 hown hkp hsz ⊢
          clear x1 x2 y1 y2 d15 d2
          generalize hX : xr (xr (turnV v15 7) (turnV v15 18)) (v15 / 8) = X
          generalize hY : xr (xr (turnV v2 17) (turnV v2 19)) (v2 / 1024) = Y
          have HXY : Hid (sch b (k + 1) = sch b k ++ [ad (ad (ad v16 X) v7) Y]) := by show _ = _; rw [HS.out, HX.out, ← hX, ← hY]; rfl
          clear hX hY HS HX
          have m16 : IntKind.i64.wrap ((k : Int) - 16) = ((k - 16 : Nat) : Int) := by rw [IntWalk.i64_in _ (by omega)]; omega
          have m7 : IntKind.i64.wrap ((k : Int) - 7) = ((k - 7 : Nat) : Int) := by rw [IntWalk.i64_in _ (by omega)]; omega
          have n16 : ((k - 16 : Nat) : Int) < (k : Int) := by omega
          have n7 : ((k - 7 : Nat) : Int) < (k : Int) := by omega
          go_region_law (refine step_append_own rfl _ _ 125 rfl (N + 3) 102 i0 (.int .u32 0) 1 4 Tryd.underlying125 hi hz0 hz1 hz2 rfl (by decide) _ _ _ rfl (owns_new hown rfl _) ⟨wp.heap.size, 0, none⟩ 1 1 [.int .u32 (ad (ad (ad v16 X) v7) Y)] rfl rfl (cell_one_new _ _ _) (uv_one [ad (ad (ad v16 X) v7) Y]) (by unfold maxLen; omega) (by omega) (by simp; omega) ?_; intro v' w1 hown' hgrow)
          all_goals
            have R := row_rel (wr := wp.drew) (Below.refl _ _) hsz hown hown' hgrow HXY.out
            have hkp1 := (hkp.drewN 1).step R.2
            clear hown' hgrow hown hkp HXY c16 c7
            go_wp2
            go_roundw
            case rel => exact ⟨k + 1, by omega, by omega, by go_num, R.1, hkp1⟩
            case measure => simp [intOf]; omega
        · have HK2 : Hid (k = 64) := by show k = 64; omega
          have c0 := st_cell hkp.st
          obtain ⟨c0, c1, c2, c3, c4, c5, c6, c7⟩ := c0
          go_wp2
          go_quiet (fail)
          go_wp2
          replace hown := owns_drewN hown nq
          replace hkp := hkp.drewN nq
          replace hg1 : g < (wr.drewN nq).heap.size := hg1
          clear c0 c1 c2 c3 c4 c5 c6 c7
          generalize wr.drewN nq = wq at hown hkp hg1 ⊢
          go_loopw [12, 13, 14, 15, 16, 17, 18, 19, 20] (fun va vb vc vd ve vf vg vh i wr => ∃ (j : Nat) (t : St), j ≤ 64 ∧ i = .int .i64 j ∧ rnds b s j = t ∧ va = .int .u32 t.a ∧ vb = .int .u32 t.b ∧ vc = .int .u32 t.c ∧ vd = .int .u32 t.d ∧ ve = .int .u32 t.e ∧ vf = .int .u32 t.f ∧ vg = .int .u32 t.g ∧ vh = .int .u32 t.h ∧ wr.ownsRow (N + 3) 102 1 (.slice (some ⟨g, 0, none⟩) k cap) k (uv (sch b k)) ∧ KeptB N s b w wr) (fun _ _ _ _ _ _ _ _ i _ => 64 - (intOf i).toNat)
          case atStart => exact ⟨0, s, Nat.zero_le _, rfl, rfl, rfl, rfl, rfl, rfl, rfl, rfl, rfl, rfl, hown, hkp⟩
          case round =>
            clear hown hkp hg1
            obtain ⟨j, t, hj, rfl, hrt, rfl, rfl, rfl, rfl, rfl, rfl, rfl, rfl, hown, hkp⟩ := hrel
            have htu : StU t := by rw [← hrt]; exact rnds_u b hs j
            by_cases hjl : j < 64
            ·
              have HR : Hid (rnds b s (j + 1) = rnd (keyL.getD j 0) ((sch b k).getD j 0) t) := by show _ = _; rw [← hrt, HK2.out]; rfl
              clear hrt
              have hrow := row_cell hown (sch_length b k) j (by omega)
              have hru := (sch_u b k hb).getD j
              have hku := keyL_u.getD j
              obtain ⟨a, b', c, d, e, f, g', hh⟩ := t
              simp only []
              generalize (sch b k).getD j 0 = wj at hrow hru HR
              have hkj : keyL[j]?.getD 0 = keyL.getD j 0 := (List.getD_eq_getElem?_getD ..).symm
              generalize keyL.getD j 0 = kj at hku HR hkj
              have a0 : bits .xor .u32 IntKind.u32.max e = nt e := not_eq htu.e
              have a1 := an_eq htu.e htu.f
              have a2 := an_eq (nt_u htu.e) htu.g
              have a3 := xr_eq (an_u htu.e htu.f) (an_u (nt_u htu.e) htu.g)
              have s1 : IntKind.u32.wrap (hh + thr e 6 11 25) = ad hh (thr e 6 11 25) := IntKind.wrap_u32' _
              have s2 : IntKind.u32.wrap (ad hh (thr e 6 11 25) + xr (an e f) (an (nt e) g')) = ad (ad hh (thr e 6 11 25)) (xr (an e f) (an (nt e) g')) := IntKind.wrap_u32' _
              have s3 : IntKind.u32.wrap (ad (ad hh (thr e 6 11 25)) (xr (an e f) (an (nt e) g')) + kj) = ad (ad (ad hh (thr e 6 11 25)) (xr (an e f) (an (nt e) g'))) kj := IntKind.wrap_u32' _
              have s4 : IntKind.u32.wrap (ad (ad (ad hh (thr e 6 11 25)) (xr (an e f) (an (nt e) g'))) kj + wj) = ad (ad (ad (ad hh (thr e 6 11 25)) (xr (an e f) (an (nt e) g'))) kj) wj := IntKind.wrap_u32' _
              have hjk : (j : Int) < (k : Int) := by omega
              have hj0 : (0 : Int) ≤ (j : Int) := by omega
              have hsz := hkp.size
              go_wp2
              go_region_held3 (fun w' => w'.cell? ⟨g, j, none⟩ = some (.int .u32 wj) ∧ Below wr.heap.size wr w') (first | (exact ⟨hrow, (Below.refl _ _).drew⟩) | (exact keep_cell (by assumption) hb1)) (first | (go_at_call 93; refine (three_any _ _ _ _ _ htu.e (by decide) (by decide) (by decide)).mono ?_; rintro e1 w1 ⟨rfl, rfl⟩) | (go_at_call 94; refine (key_any j _ hjl).mono ?_; rintro e1 w1 ⟨rfl, hb1⟩))
              have hown1 := owns_below (owns_drewN hown 1) hb1
              have hkp1 := (hkp.drewN 1).step (hb1.mono hsz)
              clear a0 a1 a2 a3 s1 s2 s3 s4 hown hkp hrow hb1
              have HT : Hid (ad (ad (ad (ad hh (thr e 6 11 25)) (xr (an e f) (an (nt e) g'))) kj) wj = rT kj wj ⟨a, b', c, d, e, f, g', hh⟩) := rfl
              have hTu : U32 (ad (ad (ad (ad hh (thr e 6 11 25)) (xr (an e f) (an (nt e) g'))) kj) wj) := ad_u _ _
              generalize ad (ad (ad (ad hh (thr e 6 11 25)) (xr (an e f) (an (nt e) g'))) kj) wj = T at HT hTu ⊢
              have p1 := an_eq htu.a htu.b
              have p2 := an_eq htu.a htu.c
              have p3 := xr_eq (an_u htu.a htu.b) (an_u htu.a htu.c)
              have p4 := an_eq htu.b htu.c
              have p5 := xr_eq (xr_u (an_u htu.a htu.b) (an_u htu.a htu.c)) (an_u htu.b htu.c)
              go_wp2_with (go_at_call 93; refine (three_any _ _ _ _ _ htu.a (by decide) (by decide) (by decide)).mono ?_; rintro e1 w2 ⟨rfl, rfl⟩)
              go_roundw
              case rel => exact ⟨j + 1, rnd kj wj ⟨a, b', c, d, e, f, g', hh⟩, by omega, by go_num, HR.out, by unfold rnd; rw [← HT.out]; rfl, rfl, rfl, rfl, by unfold rnd; rw [← HT.out]; rfl, rfl, rfl, rfl, hown1, hkp1⟩
              case measure => simp [intOf]; omega
            · have HJ : Hid (j = 64) := by show j = 64; omega
              have HF : Hid (rnds b s 64 = t) := by show _ = _; rw [← hrt, HJ.out]
              clear hrt
              obtain ⟨cs, hcs, hres⟩ := hkp.res
              obtain ⟨c0, c1, c2, c3, c4, c5, c6, c7⟩ := st_cell hkp.st
              have ht := there_row hres
              rw [hcs] at ht
              have HB : Bx (blk s b = s.plus t) := ⟨by unfold blk; rw [HF.out]⟩
              clear HF
              have hbl : Below w.heap.size w wr := by rw [← HN.out]; exact hkp.low
              have hNs : w.heap.size ≤ N + 1 + 1 := by have := HN.out; omega
              replace hres : wr.heap[N + 1 + 1]? = some (.cells cs 103 (0, 0)) := hres
              have HST : Bx ((wr.setCells (N + 1 + 1) 0 (s.plus t).cells.toList).heap[N + 1 + 1]? = some (.cells (s.plus t).cells 103 (0, 0))) := ⟨heap_stored (vs := (s.plus t).cells) hres (by rw [hcs]; rfl)⟩
              have HBS : Bx (Below w.heap.size w (wr.setCells (N + 1 + 1) 0 (s.plus t).cells.toList)) := ⟨below_setCells hbl (N + 1 + 1) hNs (s.plus t).cells.toList 0⟩
              have HTH : Bx (wr.there (N + 1 + 1) 0 8) := ⟨ht⟩
              clear hown hkp hres ht hbl hNs hcs
              go_wp2_with (refine wpList_store_mid rfl 103 (.tmp 4) (.tmp 203) rfl (N + 1 + 1) 0 (s.plus t).cells rfl rfl HTH.out (cells_info _) (cells_one _) ?_)
              exact bodyPost_ret (v := .agg (s.plus t).cells) (results_cell_row rfl _ _ (N + 1 + 1) 103 (s.plus t).cells (0, 0) _ rfl HST.out Tryd.underlying103 rfl (cells_info _)) rfl ⟨by rw [HB.out], HBS.out⟩
end Go.Proofs.YtbednfacipphhaaDoor
