/- What the document's Block answers. What schedule answers: the 64 numbers of a block. -/
import Derived.Test.YtbednfacipphhaaDoorAuaw
namespace Go.Proofs.YtbednfacipphhaaDoor
open Go.RowKit
set_option linter.unusedVariables false

set_option maxRecDepth 100000 in
theorem in_slice (N k : Nat) (hk : k < 16) (w : World) : (Instr.sliceAt 105 (.pointer (some ⟨N + 1, 0, none⟩)) (some (.int .i64 (4 * (k : Int)))) (some (.int .i64 (4 * (k : Int) + 4))) none).run Tryd.prog w = .ok (.slice (some ⟨N + 1, 4 * k, none⟩) 4 (64 - 4 * k)) w := by
  have hlen : Tryd.prog.arrayLen 105 = 64 := by kernel_rfl
  have ht : Tryd.prog.underlying 105 = some (.array (Tryd.prog.arrayLen 105) (Tryd.prog.elem 105)) := by kernel_rfl
  have hsz : (sizeOf (Tryd.prog.elem 105)).run Tryd.prog w = .ok 1 w := by kernel_rfl
  rw [run_sliceAt_array_lh w 105 ⟨N + 1, 0, none⟩ ht .i64 .i64 _ _ (by omega) (by omega) (by rw [hlen]; omega), hsz, hlen]
  have e1 : (4 * (k : Int)).toNat = 4 * k := by omega
  have e2 : (4 * (k : Int) + 4).toNat = 4 * k + 4 := by omega
  simp only [Result.andThen_ok, slicedAt, e1, e2]
  rw [if_neg (by omega), Addr.add_lit]
  simp
set_option maxRecDepth 100000 in
theorem refturn_q (x n : Int) (w : World) (hx : U32 x) (hn0 : -9223372036854775808 ≤ n) (hn1 : n ≤ 9223372036854775807) :
    Calls Tryd.prog 92 #[.int .u32 x, .int .i64 n] w fun e w' => e = .returned (.int .u32 (turnV x n)) ∧ w' = w :=
  (refturn_any x n w hx.1 hx.2 hn0 hn1).mono fun _ _ h => ⟨h.1, h.2.symm⟩
/-- what stays while Block goes on: its two arguments and the place of its answer, from the block N on -/
structure KeptB (N : Nat) (s : St) (b : List Int) (w wr : World) : Prop where
  low : Below N w wr
  size : N + 3 ≤ wr.heap.size
  st : wr.heap[N]? = some (.cells s.cells 103 (0, 0))
  inp : wr.heap[N + 1]? = some (.cells (bv b).toArray 105 (0, 0))
  res : ∃ cs : Array Value, cs.size = 8 ∧ wr.heap[N + 2]? = some (.cells cs 103 (0, 0))
set_option maxRecDepth 100000 in
theorem KeptB.drewN {N : Nat} {s : St} {b : List Int} {w wr : World} (h : KeptB N s b w wr) (n : Nat) : KeptB N s b w (wr.drewN n) := ⟨below_drewN h.low n, h.size, h.st, h.inp, h.res⟩
set_option maxRecDepth 100000 in
theorem KeptB.step {N : Nat} {s : St} {b : List Int} {w wr w1 : World} (h : KeptB N s b w wr) (hb : Below (N + 3) wr w1) : KeptB N s b w w1 :=
  ⟨h.low.trans (hb.mono (by omega)), Nat.le_trans h.size hb.size, by rw [hb.block _ (by omega)]; exact h.st, by rw [hb.block _ (by omega)]; exact h.inp,
    by obtain ⟨cs, h1, h2⟩ := h.res; exact ⟨cs, h1, by rw [hb.block _ (by omega)]; exact h2⟩⟩

set_option maxRecDepth 100000 in
set_option maxHeartbeats 1000000 in
theorem refblock_any (s : St) (b : List Int) (w : World) (hs : StU s) (hb : Byt b) (hl : b.length = 64) :
    Calls Tryd.prog 67 #[.agg s.cells, .agg (bv b).toArray] w fun e w' => e = .returned (.agg (blk s b).cells) ∧ Below w.heap.size w w' := by
  obtain ⟨i0, hi, hz0, hz1, hz2⟩ := info_parts Tryd.info32
  have HL : Hid (b.length = 64) := hl
  clear hl
  go_enter Tryd.func67, Tryd.ntmps67
  go_wp2
  obtain ⟨N, hN⟩ : ∃ N, N = w.heap.size := ⟨_, rfl⟩
  have hkept : KeptB N s b w (((w.alloc (.cells s.cells 103)).alloc (.cells (bv b).toArray 105)).alloc (.cells #[.int .u32 0, .int .u32 0, .int .u32 0, .int .u32 0, .int .u32 0, .int .u32 0, .int .u32 0, .int .u32 0] 103)) := by
    subst hN
    refine ⟨(((Below.refl _ _).alloc (Nat.le_refl _) _).alloc (by simp) _).alloc (by simp; omega) _, by simp, ?_, ?_, #[.int .u32 0, .int .u32 0, .int .u32 0, .int .u32 0, .int .u32 0, .int .u32 0, .int .u32 0, .int .u32 0], rfl, ?_⟩
    · rw [heap_alloc_old _ _ (by simp; omega), heap_alloc_old _ _ (by simp), heap_alloc_new]
    · rw [heap_alloc_old _ _ (by simp), show w.heap.size + 1 = (w.alloc (.cells s.cells 103)).heap.size from by simp, heap_alloc_new]
    · rw [show w.heap.size + 2 = ((w.alloc (.cells s.cells 103)).alloc (.cells (bv b).toArray 105)).heap.size from by simp, heap_alloc_new]
  generalize ((w.alloc (.cells s.cells 103)).alloc (.cells (bv b).toArray 105)).alloc (.cells #[.int .u32 0, .int .u32 0, .int .u32 0, .int .u32 0, .int .u32 0, .int .u32 0, .int .u32 0, .int .u32 0] 103) = W0 at hkept ⊢
  rw [← hN]
  have HN : Hid (N = w.heap.size) := hN
  clear hN
  go_loopw [5, 6] (fun v i wr => ∃ k : Nat, k ≤ 16 ∧ i = .int .i64 k ∧ wr.ownsRow (N + 3) 102 1 v k (uv (sch b k)) ∧ KeptB N s b w wr) (fun _ i _ => 16 - (intOf i).toNat)
  case atStart => exact ⟨0, Nat.zero_le _, rfl, World.ownsRow_nil _ _ _ _, hkept⟩
  case round =>
    obtain ⟨k, hk, rfl, hown, hkp⟩ := hrel
    clear hkept
    by_cases hlt : k < 16
    ·
      have hbt : Bts wr (some ⟨N + 1, 4 * k, none⟩) 4 (64 - 4 * k) ((b.drop (4 * k)).take 4) :=
        Bts.pieceB (n := 64) (fun j hj => bv_cell hkp.inp j hj) hb (by have := hkp.size; omega) (4 * k) 4 (64 - 4 * k) (by rw [HL.out]; omega) (by omega) (by unfold maxLen; omega)
      have hu := w4_u b k hb
      have hu2 := hu.2
      have hu1 := hu.1
      have HS : Hid (sch b (k + 1) = sch b k ++ [w4 b k]) := sch_lo b k hlt
      have HW : Hid (getV ((b.drop (4 * k)).take 4) = w4 b k) := rfl
      have hsl := in_slice N k hlt
      go_wp2_with fail
      refine (refget_some _ 4 _ _ _ hbt (by decide) (by decide)).mono ?_
      rintro e w' ⟨rfl, rfl⟩
      rw [HW.out]
      have hsz := hkp.size
      go_wp2_with (at_builtin; refine wpList_append_own _ rfl _ _ 125 rfl (N + 3) 102 i0 (.int .u32 0) 1 4 Tryd.underlying125 hi hz0 hz1 hz2 rfl (by decide) _ _ _ rfl (hown.alloc _) ⟨wr.heap.size, 0, none⟩ 1 1 [.int .u32 (w4 b k)] rfl rfl (cell_one_new _ _ _) (uv_one [w4 b k]) (by unfold maxLen; omega) (by omega) (by simp; omega) ?_)
      intro v' w1 hown' hgrow _
      have R := row_rel (Below.refl _ _) hsz hown hown' hgrow HS.out
      have hkp1 := hkp.step R.2
      clear hown' hgrow hown hkp hbt hsl
      go_wp2
      go_roundw
      case rel => exact ⟨k + 1, by omega, by go_num, R.1, hkp1⟩
      case measure => simp [intOf]; omega
    · have HK1 : Hid (k = 16) := by show k = 16; omega
      go_wp2
      clear hlt hk
      go_loopw [5, 9] (fun v i wr => ∃ k : Nat, 16 ≤ k ∧ k ≤ 64 ∧ i = .int .i64 k ∧ wr.ownsRow (N + 3) 102 1 v k (uv (sch b k)) ∧ KeptB N s b w wr) (fun _ i _ => 64 - (intOf i).toNat)
      case atStart => exact ⟨16, by omega, by omega, rfl, by rw [← HK1.out]; exact hown, hkp⟩
      case round =>
        clear hown hkp HK1
        obtain ⟨k, hk1, hk2, rfl, hown, hkp⟩ := hrel
        obtain ⟨g, cap, rfl, hg0, hg1⟩ := owns_form hown (by omega)
        by_cases hlt : k < 64
        ·
          have hU := sch_u b k hb
          have c15 := row_cell hown (sch_length b k) (k - 15) (by omega)
          have c2 := row_cell hown (sch_length b k) (k - 2) (by omega)
          have c16 := row_cell hown (sch_length b k) (k - 16) (by omega)
          have c7 := row_cell hown (sch_length b k) (k - 7) (by omega)
          have u15 := hU.getD (k - 15)
          have u2 := hU.getD (k - 2)
          have u16 := hU.getD (k - 16)
          have u7 := hU.getD (k - 7)
          have HS : Hid (sch b (k + 1) = sch b k ++ [wx (sch b k) k]) := sch_hi b k hk1
          have HX : Hid (wx (sch b k) k = ad (ad (ad ((sch b k).getD (k - 16) 0) (sg0 ((sch b k).getD (k - 15) 0))) ((sch b k).getD (k - 7) 0)) (sg1 ((sch b k).getD (k - 2) 0))) := rfl
          clear hU
          generalize (sch b k).getD (k - 15) 0 = v15 at *
          generalize (sch b k).getD (k - 2) 0 = v2 at *
          generalize (sch b k).getD (k - 16) 0 = v16 at *
          generalize (sch b k).getD (k - 7) 0 = v7 at *
          have x1 := xr_eq (turn_u 7 u15) (turn_u 18 u15)
          have x2 := xr_eq (xr_u (turn_u 7 u15) (turn_u 18 u15)) (div_u u15 8 (by decide))
          have y1 := xr_eq (turn_u 17 u2) (turn_u 19 u2)
          have y2 := xr_eq (xr_u (turn_u 17 u2) (turn_u 19 u2)) (div_u u2 1024 (by decide))
          have d15 : v15.tdiv 8 % 4294967296 = v15 / 8 := by have h1 := u15.1; have h2 := u15.2; rw [Int.tdiv_eq_ediv_of_nonneg h1]; omega
          have d2 : v2.tdiv 1024 % 4294967296 = v2 / 1024 := by have h1 := u2.1; have h2 := u2.2; rw [Int.tdiv_eq_ediv_of_nonneg h1]; omega
          have b15 := u15.1
          have b2 := u2.1
          have hsz := hkp.size
          have k16 : (16 : Int) ≤ (k : Int) := by omega
          have k64 : (k : Int) < 64 := by omega
          go_wp2
          go_quiet ((go_at_call 92; exact Calls.quiet_of_same (refturn_q _ _ _ u15 (by decide) (by decide))))
          go_wp2
          replace c2 : (wr.drewN nq).cell? ⟨g, k - 2, none⟩ = some (.int .u32 v2) := c2
          replace c16 : (wr.drewN nq).cell? ⟨g, k - 16, none⟩ = some (.int .u32 v16) := c16
          replace c7 : (wr.drewN nq).cell? ⟨g, k - 7, none⟩ = some (.int .u32 v7) := c7
          replace hown := owns_drewN hown nq
          replace hkp := hkp.drewN nq
          replace hsz := hkp.size
          clear c15 hg1
          generalize wr.drewN nq = wq at c2 c16 c7 hown hkp hsz ⊢
          go_quiet ((go_at_call 92; exact Calls.quiet_of_same (refturn_q _ _ _ u2 (by decide) (by decide))))
          go_wp2
          replace c16 : (wq.drewN nq).cell? ⟨g, k - 16, none⟩ = some (.int .u32 v16) := c16
          replace c7 : (wq.drewN nq).cell? ⟨g, k - 7, none⟩ = some (.int .u32 v7) := c7
          replace hown := owns_drewN hown nq
          replace hkp := hkp.drewN nq
          replace hsz := hkp.size
          clear c2
          generalize wq.drewN nq = wp at c16 c7 hown hkp hsz ⊢
          clear x1 x2 y1 y2 d15 d2
          generalize hX : xr (xr (turnV v15 7) (turnV v15 18)) (v15 / 8) = X
          generalize hY : xr (xr (turnV v2 17) (turnV v2 19)) (v2 / 1024) = Y
          have HXY : Hid (sch b (k + 1) = sch b k ++ [ad (ad (ad v16 X) v7) Y]) := by show _ = _; rw [HS.out, HX.out, ← hX, ← hY]; rfl
          clear hX hY HS HX
          have m16 : IntKind.i64.wrap ((k : Int) - 16) = ((k - 16 : Nat) : Int) := by rw [IntWalk.i64_in _ (by omega)]; omega
          have m7 : IntKind.i64.wrap ((k : Int) - 7) = ((k - 7 : Nat) : Int) := by rw [IntWalk.i64_in _ (by omega)]; omega
          have n16 : ((k - 16 : Nat) : Int) < (k : Int) := by omega
          have n7 : ((k - 7 : Nat) : Int) < (k : Int) := by omega
          go_region_law (refine step_append_own rfl _ _ 125 rfl (N + 3) 102 i0 (.int .u32 0) 1 4 Tryd.underlying125 hi hz0 hz1 hz2 rfl (by decide) _ _ _ rfl (owns_new hown rfl _) ⟨wp.heap.size, 0, none⟩ 1 1 [.int .u32 (ad (ad (ad v16 X) v7) Y)] rfl rfl (cell_one_new _ _ _) (uv_one [ad (ad (ad v16 X) v7) Y]) (by unfold maxLen; omega) (by omega) (by simp; omega) ?_; intro v' w1 hown' hgrow)
          all_goals
            have R := row_rel (wr := wp.drew) (Below.refl _ _) hsz hown hown' hgrow HXY.out
            have hkp1 := (hkp.drewN 1).step R.2
            clear hown' hgrow hown hkp HXY c16 c7
            go_wp2
            go_roundw
            case rel => exact ⟨k + 1, by omega, by omega, by go_num, R.1, hkp1⟩
            case measure => simp [intOf]; omega
        · have HK2 : Hid (k = 64) := by show k = 64; omega
          have c0 := st_cell hkp.st
          obtain ⟨c0, c1, c2, c3, c4, c5, c6, c7⟩ := c0
          go_wp2
          go_quiet (fail)
          go_wp2
          replace hown := owns_drewN hown nq
          replace hkp := hkp.drewN nq
          replace hg1 : g < (wr.drewN nq).heap.size := hg1
          clear c0 c1 c2 c3 c4 c5 c6 c7
          generalize wr.drewN nq = wq at hown hkp hg1 ⊢
          go_loopw [12, 13, 14, 15, 16, 17, 18, 19, 20] (fun va vb vc vd ve vf vg vh i wr => ∃ (j : Nat) (t : St), j ≤ 64 ∧ i = .int .i64 j ∧ rnds b s j = t ∧ va = .int .u32 t.a ∧ vb = .int .u32 t.b ∧ vc = .int .u32 t.c ∧ vd = .int .u32 t.d ∧ ve = .int .u32 t.e ∧ vf = .int .u32 t.f ∧ vg = .int .u32 t.g ∧ vh = .int .u32 t.h ∧ wr.ownsRow (N + 3) 102 1 (.slice (some ⟨g, 0, none⟩) k cap) k (uv (sch b k)) ∧ KeptB N s b w wr) (fun _ _ _ _ _ _ _ _ i _ => 64 - (intOf i).toNat)
          case atStart => exact ⟨0, s, Nat.zero_le _, rfl, rfl, rfl, rfl, rfl, rfl, rfl, rfl, rfl, rfl, hown, hkp⟩
          case round =>
            clear hown hkp hg1
            obtain ⟨j, t, hj, rfl, hrt, rfl, rfl, rfl, rfl, rfl, rfl, rfl, rfl, hown, hkp⟩ := hrel
            have htu : StU t := by rw [← hrt]; exact rnds_u b hs j
            by_cases hjl : j < 64
            ·
              have HR : Hid (rnds b s (j + 1) = rnd (keyL.getD j 0) ((sch b k).getD j 0) t) := by show _ = _; rw [← hrt, HK2.out]; rfl
              clear hrt
              have hrow := row_cell hown (sch_length b k) j (by omega)
              have hru := (sch_u b k hb).getD j
              have hku := keyL_u.getD j
              obtain ⟨a, b', c, d, e, f, g', hh⟩ := t
              simp only []
              generalize (sch b k).getD j 0 = wj at hrow hru HR
              have hkj : keyL[j]?.getD 0 = keyL.getD j 0 := (List.getD_eq_getElem?_getD ..).symm
              generalize keyL.getD j 0 = kj at hku HR hkj
              have a0 : bits .xor .u32 IntKind.u32.max e = nt e := not_eq htu.e
              have a1 := an_eq htu.e htu.f
              have a2 := an_eq (nt_u htu.e) htu.g
              have a3 := xr_eq (an_u htu.e htu.f) (an_u (nt_u htu.e) htu.g)
              have s1 : IntKind.u32.wrap (hh + thr e 6 11 25) = ad hh (thr e 6 11 25) := IntKind.wrap_u32' _
              have s2 : IntKind.u32.wrap (ad hh (thr e 6 11 25) + xr (an e f) (an (nt e) g')) = ad (ad hh (thr e 6 11 25)) (xr (an e f) (an (nt e) g')) := IntKind.wrap_u32' _
              have s3 : IntKind.u32.wrap (ad (ad hh (thr e 6 11 25)) (xr (an e f) (an (nt e) g')) + kj) = ad (ad (ad hh (thr e 6 11 25)) (xr (an e f) (an (nt e) g'))) kj := IntKind.wrap_u32' _
              have s4 : IntKind.u32.wrap (ad (ad (ad hh (thr e 6 11 25)) (xr (an e f) (an (nt e) g'))) kj + wj) = ad (ad (ad (ad hh (thr e 6 11 25)) (xr (an e f) (an (nt e) g'))) kj) wj := IntKind.wrap_u32' _
              have hjk : (j : Int) < (k : Int) := by omega
              have hj0 : (0 : Int) ≤ (j : Int) := by omega
              have hsz := hkp.size
              go_wp2
              go_region_held3 (fun w' => w'.cell? ⟨g, j, none⟩ = some (.int .u32 wj) ∧ Below wr.heap.size wr w') (first | (exact ⟨hrow, (Below.refl _ _).drew⟩) | (exact keep_cell (by assumption) hb1)) (first | (go_at_call 93; refine (three_any _ _ _ _ _ htu.e (by decide) (by decide) (by decide)).mono ?_; rintro e1 w1 ⟨rfl, rfl⟩) | (go_at_call 94; refine (key_any j _ hjl).mono ?_; rintro e1 w1 ⟨rfl, hb1⟩))
              have hown1 := owns_below (owns_drewN hown 1) hb1
              have hkp1 := (hkp.drewN 1).step (hb1.mono hsz)
              clear a0 a1 a2 a3 s1 s2 s3 s4 hown hkp hrow hb1
              have HT : Hid (ad (ad (ad (ad hh (thr e 6 11 25)) (xr (an e f) (an (nt e) g'))) kj) wj = rT kj wj ⟨a, b', c, d, e, f, g', hh⟩) := rfl
              have hTu : U32 (ad (ad (ad (ad hh (thr e 6 11 25)) (xr (an e f) (an (nt e) g'))) kj) wj) := ad_u _ _
              generalize ad (ad (ad (ad hh (thr e 6 11 25)) (xr (an e f) (an (nt e) g'))) kj) wj = T at HT hTu ⊢
              have p1 := an_eq htu.a htu.b
              have p2 := an_eq htu.a htu.c
              have p3 := xr_eq (an_u htu.a htu.b) (an_u htu.a htu.c)
              have p4 := an_eq htu.b htu.c
              have p5 := xr_eq (xr_u (an_u htu.a htu.b) (an_u htu.a htu.c)) (an_u htu.b htu.c)
              go_wp2_with (go_at_call 93; refine (three_any _ _ _ _ _ htu.a (by decide) (by decide) (by decide)).mono ?_; rintro e1 w2 ⟨rfl, rfl⟩)
              go_roundw
              case rel => exact ⟨j + 1, rnd kj wj ⟨a, b', c, d, e, f, g', hh⟩, by omega, by go_num, HR.out, by unfold rnd; rw [← HT.out]; rfl, rfl, rfl, rfl, by unfold rnd; rw [← HT.out]; rfl, rfl, rfl, rfl, hown1, hkp1⟩
              case measure => simp [intOf]; omega
            · have HJ : Hid (j = 64) := by show j = 64; omega
              have HF : Hid (rnds b s 64 = t) := by show _ = _; rw [← hrt, HJ.out]
              clear hrt
              obtain ⟨cs, hcs, hres⟩ := hkp.res
              obtain ⟨c0, c1, c2, c3, c4, c5, c6, c7⟩ := st_cell hkp.st
              have ht := there_row hres
              rw [hcs] at ht
              have HB : Bx (blk s b = s.plus t) := ⟨by unfold blk; rw [HF.out]⟩
              clear HF
              have hbl : Below w.heap.size w wr := by rw [← HN.out]; exact hkp.low
              have hNs : w.heap.size ≤ N + 1 + 1 := by have := HN.out; omega
              replace hres : wr.heap[N + 1 + 1]? = some (.cells cs 103 (0, 0)) := hres
              have HST : Bx ((wr.setCells (N + 1 + 1) 0 (s.plus t).cells.toList).heap[N + 1 + 1]? = some (.cells (s.plus t).cells 103 (0, 0))) := ⟨heap_stored (vs := (s.plus t).cells) hres (by rw [hcs]; rfl)⟩
              have HBS : Bx (Below w.heap.size w (wr.setCells (N + 1 + 1) 0 (s.plus t).cells.toList)) := ⟨below_setCells hbl (N + 1 + 1) hNs (s.plus t).cells.toList 0⟩
              have HTH : Bx (wr.there (N + 1 + 1) 0 8) := ⟨ht⟩
              clear hown hkp hres ht hbl hNs hcs
              go_wp2_with (refine wpList_store_mid rfl 103 (.tmp 4) (.tmp 203) rfl (N + 1 + 1) 0 (s.plus t).cells rfl rfl HTH.out (cells_info _) (cells_one _) ?_)
              exact bodyPost_ret (v := .agg (s.plus t).cells) (results_cell_row rfl _ _ (N + 1 + 1) 103 (s.plus t).cells (0, 0) _ rfl HST.out Tryd.underlying103 rfl (cells_info _)) rfl ⟨by rw [HB.out], HBS.out⟩
end Go.Proofs.YtbednfacipphhaaDoor
namespace Go.Proofs.YtbednfacipphhaaDoor
open Go.RowKit
set_option linter.unusedVariables false

/-- w[0] to w[k - 1], and noughts up to 64 -/
def schP (b : List Int) (k : Nat) : List Int := sch b k ++ List.replicate (64 - k) 0
set_option maxRecDepth 100000 in
theorem schP_length (b : List Int) (k : Nat) (h : k ≤ 64) : (schP b k).length = 64 := by
  unfold schP; rw [List.length_append, sch_length, List.length_replicate]; omega
set_option maxRecDepth 100000 in
theorem schP_end (b : List Int) : schP b 64 = sch b 64 := by unfold schP; simp
set_option maxRecDepth 100000 in
theorem schP_set (b : List Int) (k : Nat) (x : Int) (h : k < 64) (hx : sch b (k + 1) = sch b k ++ [x]) : (schP b k).set k x = schP b (k + 1) := by
  unfold schP
  rw [List.set_append_right _ _ (by rw [sch_length]; exact Nat.le_refl _), sch_length, Nat.sub_self, show 64 - k = (64 - (k + 1)) + 1 from by omega, List.replicate_succ, List.set_cons_zero, hx, List.append_assoc]
  rfl
set_option maxRecDepth 100000 in
theorem uv_set (l : List Int) (k : Nat) (x : Int) : (uv l).toArray.setIfInBounds k (.int .u32 x) = (uv (l.set k x)).toArray := by
  simp [uv, List.map_set]
set_option maxRecDepth 100000 in
theorem schP_get (b : List Int) (k j : Nat) (h : j < k) : (schP b k).getD j 0 = (sch b k).getD j 0 := by
  unfold schP; simp only [List.getD_eq_getElem?_getD]; rw [List.getElem?_append_left (by rw [sch_length]; exact h)]
set_option maxRecDepth 100000 in
theorem uv_cell {w : World} {g : Nat} {l : List Int} {t : TypeId} (hg : w.heap[g]? = some (.cells (uv l).toArray t (0, 0))) (j : Nat) (hj : j < l.length) : w.cell? ⟨g, j, none⟩ = some (.int .u32 (l.getD j 0)) := by
  rw [cell_of_row w g j _ t (0, 0) hg, List.getElem?_toArray]; exact uv_getD l j hj

/-- what stays while schedule goes on, k numbers being made -/
structure SK (N : Nat) (b : List Int) (w wr : World) (k : Nat) : Prop where
  low : Below N w wr
  size : N + 3 ≤ wr.heap.size
  inp : wr.heap[N]? = some (.cells (bv b).toArray 105 (0, 0))
  res : ∃ cs : Array Value, cs.size = 64 ∧ wr.heap[N + 1]? = some (.cells cs 138 (0, 0))
  row : wr.heap[N + 1 + 1]? = some (.cells (uv (schP b k)).toArray 138 (0, 0))
set_option maxRecDepth 100000 in
theorem SK.drewN {N k : Nat} {b : List Int} {w wr : World} (h : SK N b w wr k) (n : Nat) : SK N b w (wr.drewN n) k := ⟨below_drewN h.low n, h.size, h.inp, h.res, h.row⟩
set_option maxRecDepth 100000 in
theorem SK.store {N k : Nat} {b : List Int} {w wr : World} (h : SK N b w wr k) (x : Int) (hk : k < 64) (hx : sch b (k + 1) = sch b k ++ [x]) : SK N b w (wr.setCell ⟨N + 1 + 1, k, none⟩ (.int .u32 x)) (k + 1) := by
  refine ⟨h.low.setCell (p := ⟨N + 1 + 1, k, none⟩) (by show N ≤ N + 1 + 1; omega) _, Nat.le_trans h.size ((Below.refl N wr).setCell (p := ⟨N + 1 + 1, k, none⟩) (by show N ≤ N + 1 + 1; omega) (.int .u32 x)).size, by rw [heap_setCell_other _ _ _ _ (by show N ≠ N + 1 + 1; omega)]; exact h.inp, ?_, ?_⟩
  · obtain ⟨cs, h1, h2⟩ := h.res
    exact ⟨cs, h1, by rw [heap_setCell_other _ _ _ _ (by show N + 1 ≠ N + 1 + 1; omega)]; exact h2⟩
  · rw [heap_setCell_same _ _ _ _ _ _ h.row, uv_set, schP_set b k x hk hx]
set_option maxRecDepth 100000 in
theorem SK.cell {N k : Nat} {b : List Int} {w wr : World} (h : SK N b w wr k) (hk : k ≤ 64) (j : Nat) (hj : j < k) : wr.cell? ⟨N + 1 + 1, j, none⟩ = some (.int .u32 ((sch b k).getD j 0)) := by
  rw [← schP_get b k j hj]; exact uv_cell h.row j (by rw [schP_length b k hk]; omega)
set_option maxRecDepth 100000 in
theorem SK.cellAny {N k : Nat} {b : List Int} {w wr : World} (h : SK N b w wr k) (hk : k < 64) : ∃ v, wr.cell? ⟨N + 1 + 1, k, none⟩ = some v :=
  ⟨_, uv_cell h.row k (by rw [schP_length b k (Nat.le_of_lt hk)]; exact hk)⟩
set_option maxRecDepth 100000 in
theorem SK.free {N k : Nat} {b : List Int} {w wr : World} (h : SK N b w wr k) (j : Nat) : wr.frozen? ⟨N + 1 + 1, j, none⟩ = false := frozen_of_row _ _ _ _ _ h.row

set_option maxRecDepth 100000 in
theorem sch_slice (N k : Nat) (hk : k < 16) (w : World) : (Instr.sliceAt 105 (.pointer (some ⟨N, 0, none⟩)) (some (.int .i64 (4 * (k : Int)))) (some (.int .i64 (4 * ((k : Int) + 1)))) none).run Tryd.prog w = .ok (.slice (some ⟨N, 4 * k, none⟩) 4 (64 - 4 * k)) w := by
  have hlen : Tryd.prog.arrayLen 105 = 64 := by kernel_rfl
  have ht : Tryd.prog.underlying 105 = some (.array (Tryd.prog.arrayLen 105) (Tryd.prog.elem 105)) := by kernel_rfl
  have hsz : (sizeOf (Tryd.prog.elem 105)).run Tryd.prog w = .ok 1 w := by kernel_rfl
  rw [run_sliceAt_array_lh w 105 ⟨N, 0, none⟩ ht .i64 .i64 _ _ (by omega) (by omega) (by rw [hlen]; omega), hsz, hlen]
  have e1 : (4 * (k : Int)).toNat = 4 * k := by omega
  have e2 : (4 * ((k : Int) + 1)).toNat = 4 * k + 4 := by omega
  simp only [Result.andThen_ok, slicedAt, e1, e2]
  rw [if_neg (by omega), Addr.add_lit]
  simp
set_option maxRecDepth 100000 in
theorem turn_q (x n : Int) (w : World) (hx : U32 x) (hn0 : -9223372036854775808 ≤ n) (hn1 : n ≤ 9223372036854775807) :
    Calls Tryd.prog 109 #[.int .u32 x, .int .i64 n] w fun e w' => e = .returned (.int .u32 (turnV x n)) ∧ w' = w :=
  (turn_any x n w hx.1 hx.2 hn0 hn1).mono fun _ _ h => ⟨h.1, h.2.symm⟩
set_option maxRecDepth 100000 in
theorem sch_info : (Tryd.prog.info? 138).map (·.size) = some 64 := by kernel_rfl

set_option maxRecDepth 100000 in
set_option maxHeartbeats 1000000 in
theorem sched_any (b : List Int) (w : World) (hb : Byt b) (hl : b.length = 64) :
    Calls Tryd.prog 108 #[.agg (bv b).toArray] w fun e w' => e = .returned (.agg (uv (sch b 64)).toArray) ∧ Below w.heap.size w w' := by
  have HL : Hid (b.length = 64) := hl
  clear hl
  go_enter Tryd.func108, Tryd.ntmps108
  go_wp2
  obtain ⟨N, hN⟩ : ∃ N, N = w.heap.size := ⟨_, rfl⟩
  have hkept : SK N b w (((w.alloc (.cells (bv b).toArray 105)).alloc (.cells #[.int .u32 0, .int .u32 0, .int .u32 0, .int .u32 0, .int .u32 0, .int .u32 0, .int .u32 0, .int .u32 0, .int .u32 0, .int .u32 0, .int .u32 0, .int .u32 0, .int .u32 0, .int .u32 0, .int .u32 0, .int .u32 0, .int .u32 0, .int .u32 0, .int .u32 0, .int .u32 0, .int .u32 0, .int .u32 0, .int .u32 0, .int .u32 0, .int .u32 0, .int .u32 0, .int .u32 0, .int .u32 0, .int .u32 0, .int .u32 0, .int .u32 0, .int .u32 0, .int .u32 0, .int .u32 0, .int .u32 0, .int .u32 0, .int .u32 0, .int .u32 0, .int .u32 0, .int .u32 0, .int .u32 0, .int .u32 0, .int .u32 0, .int .u32 0, .int .u32 0, .int .u32 0, .int .u32 0, .int .u32 0, .int .u32 0, .int .u32 0, .int .u32 0, .int .u32 0, .int .u32 0, .int .u32 0, .int .u32 0, .int .u32 0, .int .u32 0, .int .u32 0, .int .u32 0, .int .u32 0, .int .u32 0, .int .u32 0, .int .u32 0, .int .u32 0] 138)).alloc (.cells #[.int .u32 0, .int .u32 0, .int .u32 0, .int .u32 0, .int .u32 0, .int .u32 0, .int .u32 0, .int .u32 0, .int .u32 0, .int .u32 0, .int .u32 0, .int .u32 0, .int .u32 0, .int .u32 0, .int .u32 0, .int .u32 0, .int .u32 0, .int .u32 0, .int .u32 0, .int .u32 0, .int .u32 0, .int .u32 0, .int .u32 0, .int .u32 0, .int .u32 0, .int .u32 0, .int .u32 0, .int .u32 0, .int .u32 0, .int .u32 0, .int .u32 0, .int .u32 0, .int .u32 0, .int .u32 0, .int .u32 0, .int .u32 0, .int .u32 0, .int .u32 0, .int .u32 0, .int .u32 0, .int .u32 0, .int .u32 0, .int .u32 0, .int .u32 0, .int .u32 0, .int .u32 0, .int .u32 0, .int .u32 0, .int .u32 0, .int .u32 0, .int .u32 0, .int .u32 0, .int .u32 0, .int .u32 0, .int .u32 0, .int .u32 0, .int .u32 0, .int .u32 0, .int .u32 0, .int .u32 0, .int .u32 0, .int .u32 0, .int .u32 0, .int .u32 0] 138)) 0 := by
    subst hN
    refine ⟨(((Below.refl _ _).alloc (Nat.le_refl _) _).alloc (by simp) _).alloc (by simp; omega) _, by simp, ?_, ⟨#[.int .u32 0, .int .u32 0, .int .u32 0, .int .u32 0, .int .u32 0, .int .u32 0, .int .u32 0, .int .u32 0, .int .u32 0, .int .u32 0, .int .u32 0, .int .u32 0, .int .u32 0, .int .u32 0, .int .u32 0, .int .u32 0, .int .u32 0, .int .u32 0, .int .u32 0, .int .u32 0, .int .u32 0, .int .u32 0, .int .u32 0, .int .u32 0, .int .u32 0, .int .u32 0, .int .u32 0, .int .u32 0, .int .u32 0, .int .u32 0, .int .u32 0, .int .u32 0, .int .u32 0, .int .u32 0, .int .u32 0, .int .u32 0, .int .u32 0, .int .u32 0, .int .u32 0, .int .u32 0, .int .u32 0, .int .u32 0, .int .u32 0, .int .u32 0, .int .u32 0, .int .u32 0, .int .u32 0, .int .u32 0, .int .u32 0, .int .u32 0, .int .u32 0, .int .u32 0, .int .u32 0, .int .u32 0, .int .u32 0, .int .u32 0, .int .u32 0, .int .u32 0, .int .u32 0, .int .u32 0, .int .u32 0, .int .u32 0, .int .u32 0, .int .u32 0], rfl, ?_⟩, ?_⟩
    · rw [heap_alloc_old _ _ (by simp; omega), heap_alloc_old _ _ (by simp), heap_alloc_new]
    · rw [heap_alloc_old _ _ (by simp), show w.heap.size + 1 = (w.alloc (.cells (bv b).toArray 105)).heap.size from by simp, heap_alloc_new]
    · rw [show w.heap.size + 1 + 1 = ((w.alloc (.cells (bv b).toArray 105)).alloc (.cells #[.int .u32 0, .int .u32 0, .int .u32 0, .int .u32 0, .int .u32 0, .int .u32 0, .int .u32 0, .int .u32 0, .int .u32 0, .int .u32 0, .int .u32 0, .int .u32 0, .int .u32 0, .int .u32 0, .int .u32 0, .int .u32 0, .int .u32 0, .int .u32 0, .int .u32 0, .int .u32 0, .int .u32 0, .int .u32 0, .int .u32 0, .int .u32 0, .int .u32 0, .int .u32 0, .int .u32 0, .int .u32 0, .int .u32 0, .int .u32 0, .int .u32 0, .int .u32 0, .int .u32 0, .int .u32 0, .int .u32 0, .int .u32 0, .int .u32 0, .int .u32 0, .int .u32 0, .int .u32 0, .int .u32 0, .int .u32 0, .int .u32 0, .int .u32 0, .int .u32 0, .int .u32 0, .int .u32 0, .int .u32 0, .int .u32 0, .int .u32 0, .int .u32 0, .int .u32 0, .int .u32 0, .int .u32 0, .int .u32 0, .int .u32 0, .int .u32 0, .int .u32 0, .int .u32 0, .int .u32 0, .int .u32 0, .int .u32 0, .int .u32 0, .int .u32 0] 138)).heap.size from by simp, heap_alloc_new]; rfl
  generalize ((w.alloc (.cells (bv b).toArray 105)).alloc (.cells #[.int .u32 0, .int .u32 0, .int .u32 0, .int .u32 0, .int .u32 0, .int .u32 0, .int .u32 0, .int .u32 0, .int .u32 0, .int .u32 0, .int .u32 0, .int .u32 0, .int .u32 0, .int .u32 0, .int .u32 0, .int .u32 0, .int .u32 0, .int .u32 0, .int .u32 0, .int .u32 0, .int .u32 0, .int .u32 0, .int .u32 0, .int .u32 0, .int .u32 0, .int .u32 0, .int .u32 0, .int .u32 0, .int .u32 0, .int .u32 0, .int .u32 0, .int .u32 0, .int .u32 0, .int .u32 0, .int .u32 0, .int .u32 0, .int .u32 0, .int .u32 0, .int .u32 0, .int .u32 0, .int .u32 0, .int .u32 0, .int .u32 0, .int .u32 0, .int .u32 0, .int .u32 0, .int .u32 0, .int .u32 0, .int .u32 0, .int .u32 0, .int .u32 0, .int .u32 0, .int .u32 0, .int .u32 0, .int .u32 0, .int .u32 0, .int .u32 0, .int .u32 0, .int .u32 0, .int .u32 0, .int .u32 0, .int .u32 0, .int .u32 0, .int .u32 0] 138)).alloc (.cells #[.int .u32 0, .int .u32 0, .int .u32 0, .int .u32 0, .int .u32 0, .int .u32 0, .int .u32 0, .int .u32 0, .int .u32 0, .int .u32 0, .int .u32 0, .int .u32 0, .int .u32 0, .int .u32 0, .int .u32 0, .int .u32 0, .int .u32 0, .int .u32 0, .int .u32 0, .int .u32 0, .int .u32 0, .int .u32 0, .int .u32 0, .int .u32 0, .int .u32 0, .int .u32 0, .int .u32 0, .int .u32 0, .int .u32 0, .int .u32 0, .int .u32 0, .int .u32 0, .int .u32 0, .int .u32 0, .int .u32 0, .int .u32 0, .int .u32 0, .int .u32 0, .int .u32 0, .int .u32 0, .int .u32 0, .int .u32 0, .int .u32 0, .int .u32 0, .int .u32 0, .int .u32 0, .int .u32 0, .int .u32 0, .int .u32 0, .int .u32 0, .int .u32 0, .int .u32 0, .int .u32 0, .int .u32 0, .int .u32 0, .int .u32 0, .int .u32 0, .int .u32 0, .int .u32 0, .int .u32 0, .int .u32 0, .int .u32 0, .int .u32 0, .int .u32 0] 138) = W0 at hkept ⊢
  rw [← hN]
  have HN : Hid (N = w.heap.size) := hN
  clear hN
  go_loopw [12] (fun i wr => ∃ k : Nat, k ≤ 16 ∧ i = .int .i64 k ∧ SK N b w wr k) (fun i _ => 16 - (intOf i).toNat)
  case atStart => exact ⟨0, Nat.zero_le _, rfl, hkept⟩
  case round =>
    obtain ⟨k, hk, rfl, hkp⟩ := hrel
    clear hkept
    by_cases hlt : k < 16
    ·
      have hbt : Bts wr (some ⟨N, 4 * k, none⟩) 4 (64 - 4 * k) ((b.drop (4 * k)).take 4) :=
        Bts.pieceB (n := 64) (fun j hj => bv_cell hkp.inp j hj) hb (by have := hkp.size; omega) (4 * k) 4 (64 - 4 * k) (by rw [HL.out]; omega) (by omega) (by unfold maxLen; omega)
      have hu := w4_u b k hb
      have hu2 := hu.2
      have hu1 := hu.1
      have HS := sch_lo b k hlt
      have HW : Hid (getV ((b.drop (4 * k)).take 4) = w4 b k) := rfl
      have hst := hkp.store (w4 b k) (by omega) HS
      have hsl := sch_slice N k hlt
      obtain ⟨c0, hc⟩ := hkp.cellAny (by omega)
      have hf := hkp.free k
      clear HS
      go_wp2_with fail
      refine (get_some _ 4 _ _ _ hbt (by decide) (by decide)).mono ?_
      rintro e w' ⟨rfl, rfl⟩
      rw [HW.out]
      clear hsl hbt
      go_wp2
      go_roundw
      case rel => exact ⟨k + 1, by omega, by go_num, hst⟩
      case measure => simp [intOf]; omega
    · have HK1 : Hid (k = 16) := by show k = 16; omega
      go_wp2
      clear hlt hk
      go_loopw [7] (fun i wr => ∃ k : Nat, 16 ≤ k ∧ k ≤ 64 ∧ i = .int .i64 k ∧ SK N b w wr k) (fun i _ => 64 - (intOf i).toNat)
      case atStart => exact ⟨16, by omega, by omega, rfl, by rw [← HK1.out]; exact hkp⟩
      case round =>
        clear hkp HK1
        obtain ⟨k, hk1, hk2, rfl, hkp⟩ := hrel
        by_cases hlt : k < 64
        ·
          have hU := sch_u b k hb
          have c15 := hkp.cell hk2 (k - 15) (by omega)
          have c2 := hkp.cell hk2 (k - 2) (by omega)
          have c16 := hkp.cell hk2 (k - 16) (by omega)
          have c7 := hkp.cell hk2 (k - 7) (by omega)
          have u15 := hU.getD (k - 15)
          have u2 := hU.getD (k - 2)
          have u16 := hU.getD (k - 16)
          have u7 := hU.getD (k - 7)
          have HS : Hid (sch b (k + 1) = sch b k ++ [wx (sch b k) k]) := sch_hi b k hk1
          have HX : Hid (wx (sch b k) k = ad (ad (ad ((sch b k).getD (k - 16) 0) (sg0 ((sch b k).getD (k - 15) 0))) ((sch b k).getD (k - 7) 0)) (sg1 ((sch b k).getD (k - 2) 0))) := rfl
          clear hU
          generalize (sch b k).getD (k - 15) 0 = v15 at *
          generalize (sch b k).getD (k - 2) 0 = v2 at *
          generalize (sch b k).getD (k - 16) 0 = v16 at *
          generalize (sch b k).getD (k - 7) 0 = v7 at *
          have x1 := xr_eq (turn_u 7 u15) (turn_u 18 u15)
          have x2 := xr_eq (xr_u (turn_u 7 u15) (turn_u 18 u15)) (div_u u15 8 (by decide))
          have y1 := xr_eq (turn_u 17 u2) (turn_u 19 u2)
          have y2 := xr_eq (xr_u (turn_u 17 u2) (turn_u 19 u2)) (div_u u2 1024 (by decide))
          have b15 := u15.1
          have b2 := u2.1
          have k16 : (16 : Int) ≤ (k : Int) := by omega
          have k64 : (k : Int) < 64 := by omega
          go_wp2
          go_quiet (fail)
          replace c16 : (wr.drewN nq).cell? ⟨N + 1 + 1, k - 16, none⟩ = some (.int .u32 v16) := c16
          replace c7 : (wr.drewN nq).cell? ⟨N + 1 + 1, k - 7, none⟩ = some (.int .u32 v7) := c7
          replace hkp := hkp.drewN nq
          clear c15 c2
          generalize wr.drewN nq = wq at c16 c7 hkp ⊢
          go_wp2_with fail
          refine (turn_any _ _ _ u15.1 u15.2 (by decide) (by decide)).mono ?_
          rintro e w' ⟨rfl, rfl⟩
          go_wp2_with fail
          refine (turn_any _ _ _ u15.1 u15.2 (by decide) (by decide)).mono ?_
          rintro e w' ⟨rfl, rfl⟩
          go_wp2_with fail
          refine (turn_any _ _ _ u2.1 u2.2 (by decide) (by decide)).mono ?_
          rintro e w' ⟨rfl, rfl⟩
          go_wp2_with fail
          refine (turn_any _ _ _ u2.1 u2.2 (by decide) (by decide)).mono ?_
          rintro e w' ⟨rfl, rfl⟩
          go_wp2
          clear x1 x2 y1 y2
          generalize hX : xr (xr (turnV v15 7) (turnV v15 18)) (v15 / 8) = X
          generalize hY : xr (xr (turnV v2 17) (turnV v2 19)) (v2 / 1024) = Y
          have HXY : Hid (sch b (k + 1) = sch b k ++ [ad (ad (ad v16 X) v7) Y]) := by show _ = _; rw [HS.out, HX.out, ← hX, ← hY]; rfl
          clear hX hY HS HX
          have s1 : IntKind.u32.wrap (v16 + X) = ad v16 X := IntKind.wrap_u32' _
          have s2 : IntKind.u32.wrap (ad v16 X + v7) = ad (ad v16 X) v7 := IntKind.wrap_u32' _
          have s3 : IntKind.u32.wrap (ad (ad v16 X) v7 + Y) = ad (ad (ad v16 X) v7) Y := IntKind.wrap_u32' _
          obtain ⟨c0, hc⟩ := hkp.cellAny hlt
          have hf := hkp.free k
          have k0 : (0 : Int) ≤ (k : Int) := by omega
          have m16 : IntKind.i64.wrap ((k : Int) - 16) = ((k - 16 : Nat) : Int) := by rw [IntWalk.i64_in _ (by omega)]; omega
          have m7 : IntKind.i64.wrap ((k : Int) - 7) = ((k - 7 : Nat) : Int) := by rw [IntWalk.i64_in _ (by omega)]; omega
          have n16 : ((k - 16 : Nat) : Int) < 64 := by omega
          have n7 : ((k - 7 : Nat) : Int) < 64 := by omega
          have z16 : (0 : Int) ≤ ((k - 16 : Nat) : Int) := by omega
          have z7 : (0 : Int) ≤ ((k - 7 : Nat) : Int) := by omega
          go_region
          have hst := (hkp.store _ hlt HXY.out).drewN 1
          clear hkp HXY c16 c7 hc hf s1 s2 s3
          go_wp2
          go_roundw
          case rel => exact ⟨k + 1, by omega, by omega, by go_num, hst⟩
          case measure => simp [intOf]; omega
        · have HK2 : Hid (k = 64) := by show k = 64; omega
          obtain ⟨cs, hcs, hres⟩ := hkp.res
          have ht := there_row hres
          rw [hcs] at ht
          have hrow := hkp.row
          have HE : Bx (schP b k = sch b 64) := ⟨by rw [HK2.out, schP_end]⟩
          rw [HE.out] at hrow
          have HZ : Bx ((uv (sch b 64)).toArray.size = 64) := ⟨by rw [List.size_toArray, uv_length, sch_length]⟩
          have hbl : Below w.heap.size w wr := by rw [← HN.out]; exact hkp.low
          have hNs : w.heap.size ≤ N + 1 := by have := HN.out; omega
          have HST : Bx ((wr.setCells (N + 1) 0 (uv (sch b 64)).toArray.toList).heap[N + 1]? = some (.cells (uv (sch b 64)).toArray 138 (0, 0))) := ⟨heap_stored hres (by rw [hcs, HZ.out])⟩
          have HBS : Bx (Below w.heap.size w (wr.setCells (N + 1) 0 (uv (sch b 64)).toArray.toList)) := ⟨below_setCells hbl (N + 1) hNs _ 0⟩
          have HTH : Bx (wr.there (N + 1) 0 64) := ⟨ht⟩
          have HON : Bx ((uv (sch b 64)).toArray.all (·.oneCell') = true) := ⟨all_oneCell_toArray (uv_one _)⟩
          clear hkp hres ht hbl hNs hcs HE
          generalize hA : (uv (sch b 64)).toArray = A at hrow HZ HST HBS HON
          have HA : Bx (Ending.returned (.agg A) = .returned (.agg (uv (sch b 64)).toArray)) := ⟨by rw [hA]⟩
          clear hA
          have HI : Bx ((Tryd.prog.info? 138).map (·.size) = some A.size) := ⟨by rw [HZ.out]; exact sch_info⟩
          have hrow' : Bx (wr.heap[N + 1 + 1]? = some (.cells A 138 (0, 0))) := ⟨hrow⟩
          have HTH' : Bx (wr.there (N + 1) 0 A.size) := ⟨by rw [HZ.out]; exact HTH.out⟩
          clear hrow HTH
          go_wp2_with (refine wpList_load_row rfl 138 (.tmp 3) rfl (N + 1 + 1) rfl 138 A (0, 0) _ hrow'.out Tryd.underlying138 rfl HI.out ?_; refine wpList_store_mid rfl 138 (.tmp 2) (.tmp 73) rfl (N + 1) 0 A rfl rfl HTH'.out HI.out HON.out ?_)
          exact bodyPost_ret (v := .agg A) (results_cell_row rfl _ _ (N + 1) 138 A (0, 0) _ rfl HST.out Tryd.underlying138 rfl HI.out) rfl ⟨HA.out, HBS.out⟩
end Go.Proofs.YtbednfacipphhaaDoor
