/- One call at both disks. -/
import Derived.Test.YtihmfnndnjhpbaaDoesMem9
namespace Go.Proofs.Ytihmfnndnjhpbaa
open Go.RowKit
set_option linter.unusedVariables false

set_option maxRecDepth 100000 in
theorem boolp_info : (Try.prog.info? 4).map (fun i => (i.zero, i.size, i.bytes)) = some (some (.bool false), 1, 1) := by kernel_rfl
set_option maxRecDepth 100000 in
set_option maxHeartbeats 4000000 in
set_option maxRecDepth 100000 in
theorem does_any (w0 : World) (g gx : Nat) (own ownx : Nat → Prop) (s : DS) (m : Nat) (kd x : Int) (bb : List Int) (K : List Bool) (a2 : Option Addr) (l2 c2 : Nat) (a3 : Option Addr) (l3 c3 : Nat) (w : World) (hP : PL w0 w g gx own ownx s s m) (hm : m ≤ 900) (hV : DoV w0 ⟨kd, x, bb, K⟩ a2 l2 c2 a3 l3 c3) :
    Calls Try.prog 12 #[.pointer (some ⟨g, 0, none⟩), .pointer (some ⟨gx, 0, none⟩), .agg #[.int .i64 kd, .int .i64 x, .slice a2 l2 c2, .slice a3 l3 c3]] w fun e w' => e = .returned (.bool true) ∧ ∃ own' ownx' s', PL w0 w' g gx own' ownx' s' s' (m + 1) := by
  obtain ⟨gk, hgk⟩ : ∃ gk, gk = w.heap.size := ⟨_, rfl⟩
  have HGE : Bx (gk = w.heap.size) := ⟨hgk⟩
  have hxm : x ≤ 9223372036854775807 := hV.pos.2
  have hbA : Below w.heap.size w (w.alloc (.cells #[.int .i64 kd, .int .i64 x, .slice a2 l2 c2, .slice a3 l3 c3] 36)) := (Below.refl _ _).alloc (Nat.le_refl _) _
  have hrow1 : (w.alloc (.cells #[.int .i64 kd, .int .i64 x, .slice a2 l2 c2, .slice a3 l3 c3] 36)).heap[gk]? = some (.cells #[.int .i64 kd, .int .i64 x, .slice a2 l2 c2, .slice a3 l3 c3] 36 (0, 0)) := by rw [hgk]; exact heap_alloc_new _ _
  have hP1 := hP.step hbA
  have hsz1 : (w.alloc (.cells #[.int .i64 kd, .int .i64 x, .slice a2 l2 c2, .slice a3 l3 c3] 36)).heap.size = gk + 1 := by rw [hgk]; simp
  have hb2 := hV.b.below hP1.low
  have HVK : Bx (Bls w0 a3 l3 c3 K) := ⟨hV.keep⟩
  have HVB : Bx (Bts w0 a2 l2 c2 bb) := ⟨hV.b⟩
  have HDL : Bx (∀ k, own k → k < gk) := ⟨fun k hk => by rw [hgk]; exact hP.d.lt k hk⟩
  have HXL : Bx (∀ k, ownx k → k < gk) := ⟨fun k hk => by rw [hgk]; exact hP.x.lt k hk⟩
  have HOK : Bx s.Ok := ⟨hP.d.ok⟩
  have hOm : s.O.length ≤ m := hP.x.open_le
  have hc3 := hV.keep.le_cap
  have hc3m := hV.keep.cap_le
  unfold maxLen at hc3m
  have hgw : Bx (w0.heap.size ≤ gk) := ⟨by rw [hgk]; exact hP.low.size⟩
  clear hP hV hbA hgk
  go_enter Try.func12, Try.ntmps12
  go_wp2_with fail
  rw [← HGE.out]
  clear HGE
  generalize w.alloc (.cells #[.int .i64 kd, .int .i64 x, .slice a2 l2 c2, .slice a3 l3 c3] 36) = w1 at hrow1 hP1 hsz1 hb2 ⊢
  refine (cut_any a2 l2 c2 100 bb _ hb2 (by decide)).mono ?_
  rintro e w' ⟨⟨mb, rfl, hmb⟩, rfl⟩
  have hmb2 : mb ≤ l2 ∧ mb ≤ 100 := by
    have e1 := hmb.len_eq
    have e2 := hb2.len_eq
    rw [List.length_take] at e1
    omega
  have HB7 : Bx (∀ W, Below w0.heap.size w0 W → Bts W a2 mb c2 (bb.take 100)) := ⟨fun W hW => by
    have h1 := HVB.out.below hW
    by_cases hle : 100 ≤ l2
    · have h2 := h1.cut 100 hle
      have e1 := hmb.len_eq
      have e2 := h2.len_eq
      rw [← e1, e2]; exact h2
    · have e0 : bb.take 100 = bb := List.take_of_length_le (by rw [h1.len_eq]; omega)
      have e1 := hmb.len_eq
      rw [e0] at e1 ⊢
      rw [← e1, h1.len_eq]; exact h1⟩
  have HBF : Bx (0 < mb → ∀ p, a2 = some p → p.block < w0.heap.size) := ⟨fun hp p hq => by
    obtain ⟨b', o', e', hlt', _⟩ := HVB.out.spot (by omega)
    rw [e'] at hq; cases hq; exact hlt'⟩
  generalize bb.take 100 = cc at hmb HB7
  clear hb2 HVB
  go_wp2_with fail
  refine (copy_any a2 mb c2 cc _ hmb (by omega)).mono ?_
  rintro e w2 ⟨v8, rfl, hown8, hb12⟩
  have hccb := hmb.byt
  obtain ⟨a8, c8, rfl, hm8⟩ := Bts.of_owns hown8 hccb
  have hP2 := hP1.step hb12
  have hrow2 := (hb12.block gk (by omega)).trans hrow1
  have hsz2 := hb12.size
  have HI8a : Bx (∀ p, a8 = some p → gk + 1 ≤ p.block ∧ p.block < w2.heap.size) := ⟨fun p hp => by have := owns_in hown8 p hp; omega⟩
  have HF8 : Bx (0 < mb → ∃ G, a8 = some ⟨G, 0, none⟩ ∧ RowB w2 G mb) := ⟨fun hp => by
    obtain ⟨G, cG, e1, _, _⟩ := owns_form hown8 hp
    injection e1 with e1
    subst e1
    exact ⟨G, rfl, rowB_owns hown8 hccb⟩⟩
  have HM8a : Bx _ := ⟨hm8⟩
  have hc8 := hm8.le_cap
  have hc8m := hm8.cap_le
  unfold maxLen at hc8m
  have HK2 : Bx (Bls w2 a3 l3 c3 K) := ⟨HVK.out.below hP2.low⟩
  have HKL : Bx (K.length = l3) := ⟨HVK.out.len_eq⟩
  obtain ⟨N, hN⟩ : ∃ N, N = w2.heap.size := ⟨_, rfl⟩
  have HN : Bx (N = w2.heap.size) := ⟨hN⟩
  have HP2 : Bx _ := ⟨hP2⟩
  have HR2 : Bx _ := ⟨hrow2⟩
  have hgN : Bx (gk < N) := ⟨by omega⟩
  clear hmb hown8 hm8 hP1 hrow1 hsz1 hb12 hP2 hrow2 hsz2 HVK hN hccb
  go_upto_block 0 with fail
  go_cut [9] from 22 to 40 (fun v9 wx => ∃ a9 n9 c9, v9 = .slice a9 n9 c9 ∧ wx.ownsRow N 4 1 (.slice a9 n9 c9) n9 ((K.take 200).map Value.bool) ∧ Below N w2 wx)
  case first =>
    go_wp2_with fail
    go_loopw [9, 10] (fun v i wr => ∃ j : Nat, j ≤ l3 ∧ j ≤ 200 ∧ i = .int .i64 j ∧ wr.ownsRow N 4 1 v j ((K.take j).map Value.bool) ∧ Below N w2 wr) (fun _ i _ => 200 - (intOf i).toNat)
    case atStart => exact ⟨0, Nat.zero_le _, Nat.zero_le _, rfl, World.ownsRow_nil _ _ _ _, Below.refl _ _⟩
    case round =>
      obtain ⟨j, hj1, hj2, rfl, hown, hlow⟩ := hrel
      obtain ⟨vAll, hvAll⟩ : ∃ vAll, vAll = u9 := ⟨_, rfl⟩
      subst hvAll
      have hrowr := (hlow.block gk hgN.out).trans HR2.out
      have cK : wr.cell? ⟨gk, 3, none⟩ = some (.slice a3 l3 c3) := by rw [cell_of_row _ _ 3 _ _ (0, 0) hrowr]; rfl
      have hNs : N ≤ wr.heap.size := by have h1 := hlow.size; have h2 := HN.out; omega
      by_cases hjl : j < l3
      · have gl : decide ((j : Int) < (l3 : Int)) = true := by simp; omega
        have glI : (j : Int) < (l3 : Int) := by omega
        by_cases hj200 : j < 200
        · have g200 : decide ((j : Int) < 200) = true := by simp; omega
          obtain ⟨kb, ko, rfl, hkbl, hkcc⟩ := (HK2.out.below (by rw [← HN.out]; exact hlow)).spot (by omega)
          have hkcell := hkcc j hjl
          have HMO : Bx ((K.take j).map Value.bool ++ [Value.bool (K.getD j false)] = (K.take (j + 1)).map Value.bool) := ⟨by
            rw [List.take_succ_eq_append_getElem (by rw [HKL.out]; exact hjl), List.map_append, List.getD_eq_getElem?_getD, List.getElem?_eq_getElem (by rw [HKL.out]; exact hjl)]; rfl⟩
          generalize K.getD j false = kv at hkcell HMO
          generalize (K.take j).map Value.bool = XS at hown HMO
          obtain ⟨i0, hi0, hz0, hz1, hz2⟩ := info_parts boolp_info
          have hnew := World.news_of_block (heap_alloc_new wr (.cells #[.bool kv] 4))
          have hownA := hown.alloc (.cells #[.bool kv] 4)
          have hlowA : Below N w2 (wr.alloc (.cells #[.bool kv] 4)) := hlow.alloc hNs _
          have hsA : N ≤ (wr.alloc (.cells #[.bool kv] 4)).heap.size := by have h1 := hlowA.size; have h2 := HN.out; omega
          clear hown hlow hkcc hrowr
          go_wp2_with (at_builtin; refine wpList_append_own _ rfl (.tmp 33) (.tmp 39) 34 rfl N 4 i0 (.bool false) 1 1 Try.underlying34 hi0 hz0 hz1 hz2 rfl (by decide) vAll j XS rfl hownA ⟨wr.heap.size, 0, none⟩ 1 1 [.bool kv] rfl rfl hnew (by simp [Value.oneCell']) (by unfold maxLen; omega) (by omega) hsA ?_; intro v9 w9 hown9 hgr9 _)
          have hlow9 : Below N w2 w9 := hlowA.grown hgr9 hsA (fun q hq => (hownA.lt q hq).1)
          rw [HMO.out] at hown9
          clear hgr9 hownA hlowA hi0 hz0 hz1 hz2 hnew
          go_wp2
          go_roundw
          case rel => exact ⟨j + 1, by omega, by omega, by go_num, hown9, hlow9⟩
          case measure => simp [intOf]; omega
        · have g200 : decide ((j : Int) < 200) = false := by simp; omega
          obtain rfl : j = 200 := by omega
          obtain ⟨a9, c9, e9, _, _, _⟩ := bls_owns hown
          subst e9
          clear hrowr
          go_wp2
          go_meet
          case rel => exact ⟨a9, _, c9, rfl, hown, hlow⟩
      · have gl : decide ((j : Int) < (l3 : Int)) = false := by simp; omega
        have HTE : Bx (K.take j = K.take 200) := ⟨by rw [List.take_of_length_le (by rw [HKL.out]; omega), List.take_of_length_le (by rw [HKL.out]; omega)]⟩
        rw [HTE.out] at hown
        obtain ⟨a9, c9, e9, _, _, _⟩ := bls_owns hown
        subst e9
        clear hrowr HTE
        go_wp2
        go_meet
        case rel => exact ⟨a9, _, c9, rfl, hown, hlow⟩
  case rest =>
    obtain ⟨a9, n9, c9, rfl, hown9, hlow9⟩ := hcut
    obtain ⟨a9', c9', e9, hB9, hc9, hc9m⟩ := bls_owns hown9
    cases e9
    have HB9 : Bx _ := ⟨hB9⟩
    have hlowN : Below w2.heap.size w2 wc := by rw [← HN.out]; exact hlow9
    have hPc := HP2.out.step hlowN
    have hrowc := (hlow9.block gk hgN.out).trans HR2.out
    have hszc := hlow9.size
    have cKD : wc.cell? ⟨gk, 0, none⟩ = some (.int .i64 kd) := by rw [cell_of_row _ _ 0 _ _ (0, 0) hrowc]; rfl
    obtain ⟨w4, hw4⟩ : ∃ w4, w4 = wc := ⟨_, rfl⟩
    have hSdc : Sd w4 wc gk wc.heap.size own ownx := by rw [hw4]; exact Sd.start HDL.out HXL.out
    have HGK : Bx (∀ W : World, (∀ k, gk ≤ k → k < wc.heap.size → W.heap[k]? = w4.heap[k]?) → W.cell? ⟨gk, 1, none⟩ = some (.int .i64 x)) := ⟨fun W hW => by
      have h1 : W.heap[gk]? = some (.cells #[.int .i64 kd, .int .i64 x, .slice a2 l2 c2, .slice a3 l3 c3] 36 (0, 0)) := (hW gk (Nat.le_refl _) (by have h1 := hgN.out; have h2 := HN.out; omega)).trans (by rw [hw4]; exact hrowc)
      rw [cell_of_row _ _ 1 _ _ (0, 0) h1]; rfl⟩
    have HM8 : Bx (Bts w4 a8 mb c8 cc) := ⟨by rw [hw4]; exact HM8a.out.below hlowN⟩
    have HI8 : Bx (∀ p, a8 = some p → gk ≤ p.block ∧ p.block < wc.heap.size) := ⟨fun p hp => by have h1 := HI8a.out p hp; omega⟩
    have HI9 : Bx (∀ p, a9 = some p → gk ≤ p.block ∧ p.block < wc.heap.size) := ⟨fun p hp => by have h1 := owns_in hown9 p hp; have h2 := hgN.out; omega⟩
    have HB94 : Bx (Bls w4 a9 n9 c9 (K.take 200)) := ⟨by rw [hw4]; exact HB9.out⟩
    have HF84 : Bx (0 < mb → ∃ G, a8 = some ⟨G, 0, none⟩ ∧ (∀ W : World, W.heap[G]? = w4.heap[G]? → RowB W G mb) ∧ gk < G ∧ G < wc.heap.size) := ⟨fun hp => by
      obtain ⟨G, e1, h1⟩ := HF8.out hp
      have h2 := HI8a.out _ e1
      refine ⟨G, e1, fun W hW => ?_, by have h3 : gk + 1 ≤ G := h2.1; omega, by have h3 : G < w2.heap.size := h2.2; omega⟩
      obtain ⟨cs, h3, h4⟩ := h1.row
      exact ⟨cs, hW.trans (by rw [hw4]; exact (hlowN.block G h2.2).trans h3), h4⟩⟩
    generalize K.take 200 = KK at HB94
    clear hown9 hB9 HB9 hlow9 hlowN hrowc hw4 HM8a HF8 HI8a HP2 HR2 HK2 HDL HXL
    have HG0 : Bx (gk < wc.heap.size) := ⟨by have h1 := hgN.out; have h2 := HN.out; omega⟩
    generalize wc.heap.size = E at hSdc HGK HI8 HI9 HF84 HG0
    clear hszc hgN HN HKL
    go_upto_block 2 with fail
    clear cKD
    go_cut [43] from 43 to 96 (fun s43 wx => ∃ own2 ownx2 s2, PL w0 wx g gx own2 ownx2 s2 s2 (m + 1) ∧ wx.cell? ⟨gk, 1, none⟩ = some (.int .i64 x))
    case first =>
      by_cases h0 : kd = 0
      · subst h0
        go_upto_region 10 with fail
        have hPL : PL w0 wc.drew g gx own ownx s s m := hPc.drewN 1
        have hSd : Sd w4 wc.drew gk E own ownx := hSdc.drewN 1
        have hk : wc.drew.cell? ⟨gk, 1, none⟩ = some (.int .i64 x) := HGK.out _ hSd.same
        clear hPc hSdc
        refine wp_region_held_drew (S := fun W => W.cell? ⟨gk, 1, none⟩ = some (.int .i64 x)) (by kernel_rfl) hk (fun _ => ?_)
        generalize wc.drew = wk at hk hPL hSd ⊢
        refine wpAnyH_take (i := 0) (oi := { dst := some 45, op := Op.move (Operand.tmp 0), type := 23, pos := "law.go:42", after := #[], guard := none }) (v := ?vdd101) rfl (by kernel_rfl) (by kernel_rfl) (by kernel_rfl) (fun _ _ _ h => h) (Or.inl ⟨by rfl, ?ydd101⟩) hk ?rdd101
        case ydd101 => (intro w hSw; (try dsimp only at hSw); go_simp; first | done | with_reducible rfl)
        simp only [Act.put, List.setIfInBounds_toArray, List.set_cons_zero, List.set_cons_succ]
        refine wpAnyH_take (i := 1) (oi := { dst := some 46, op := Op.fieldAddr 36 (Operand.tmp 5) 1, type := 0, pos := "law.go:42", after := #[], guard := none }) (v := ?vdd102) rfl (by kernel_rfl) (by kernel_rfl) (by kernel_rfl) (fun _ _ _ h => h) (Or.inl ⟨by rfl, ?ydd102⟩) hk ?rdd102
        case ydd102 => (intro w hSw; (try dsimp only at hSw); go_simp; first | done | with_reducible rfl)
        simp only [Act.put, List.setIfInBounds_toArray, List.set_cons_zero, List.set_cons_succ]
        refine wpAnyH_take (i := 2) (oi := { dst := some 47, op := Op.load 3 (Operand.tmp 46), type := 3, pos := "law.go:42", after := #[{ on := 1, ground := Ground.data }], guard := none }) (v := ?vdd103) rfl (by kernel_rfl) (by kernel_rfl) (by kernel_rfl) (fun _ _ _ h => h) (Or.inl ⟨by rfl, ?ydd103⟩) hk ?rdd103
        case ydd103 => (intro w hSw; have hcw := hSw; clear hSw; go_simp; first | done | with_reducible rfl)
        simp only [Act.put, List.setIfInBounds_toArray, List.set_cons_zero, List.set_cons_succ]
        refine wpAnyH_take (i := 3) (oi := { dst := some 48, op := Op.move (Operand.tmp 8), type := 33, pos := "law.go:42", after := #[], guard := none }) (v := ?vdd104) rfl (by kernel_rfl) (by kernel_rfl) (by kernel_rfl) (fun _ _ _ h => h) (Or.inl ⟨by rfl, ?ydd104⟩) hk ?rdd104
        case ydd104 => (intro w hSw; (try dsimp only at hSw); go_simp; first | done | with_reducible rfl)
        simp only [Act.put, List.setIfInBounds_toArray, List.set_cons_zero, List.set_cons_succ]
        refine wpAnyH_take (i := 5) (oi := { dst := some 50, op := Op.move (Operand.tmp 1), type := 27, pos := "law.go:42", after := #[], guard := none }) (v := ?vdd105) rfl (by kernel_rfl) (by kernel_rfl) (by kernel_rfl) (fun _ _ _ h => h) (Or.inl ⟨by rfl, ?ydd105⟩) hk ?rdd105
        case ydd105 => (intro w hSw; (try dsimp only at hSw); go_simp; first | done | with_reducible rfl)
        simp only [Act.put, List.setIfInBounds_toArray, List.set_cons_zero, List.set_cons_succ]
        refine wpAnyH_take (i := 6) (oi := { dst := some 51, op := Op.fieldAddr 36 (Operand.tmp 5) 1, type := 0, pos := "law.go:42", after := #[], guard := none }) (v := ?vdd106) rfl (by kernel_rfl) (by kernel_rfl) (by kernel_rfl) (fun _ _ _ h => h) (Or.inl ⟨by rfl, ?ydd106⟩) hk ?rdd106
        case ydd106 => (intro w hSw; (try dsimp only at hSw); go_simp; first | done | with_reducible rfl)
        simp only [Act.put, List.setIfInBounds_toArray, List.set_cons_zero, List.set_cons_succ]
        refine wpAnyH_take (i := 7) (oi := { dst := some 52, op := Op.load 3 (Operand.tmp 51), type := 3, pos := "law.go:42", after := #[{ on := 6, ground := Ground.data }], guard := none }) (v := ?vdd107) rfl (by kernel_rfl) (by kernel_rfl) (by kernel_rfl) (fun _ _ _ h => h) (Or.inl ⟨by rfl, ?ydd107⟩) hk ?rdd107
        case ydd107 => (intro w hSw; have hcw := hSw; clear hSw; go_simp; first | done | with_reducible rfl)
        simp only [Act.put, List.setIfInBounds_toArray, List.set_cons_zero, List.set_cons_succ]
        refine wpAnyH_take (i := 8) (oi := { dst := some 53, op := Op.move (Operand.tmp 7), type := 33, pos := "law.go:42", after := #[], guard := none }) (v := ?vdd108) rfl (by kernel_rfl) (by kernel_rfl) (by kernel_rfl) (fun _ _ _ h => h) (Or.inl ⟨by rfl, ?ydd108⟩) hk ?rdd108
        case ydd108 => (intro w hSw; (try dsimp only at hSw); go_simp; first | done | with_reducible rfl)
        simp only [Act.put, List.setIfInBounds_toArray, List.set_cons_zero, List.set_cons_succ]
        refine wpAnyH_ready (rs := [4]) (by decide +kernel) (by simp) ?_
        refine AllReadyH.cons (o := { dst := some 49, op := Op.call { callee := Callee.value (Operand.func 23), args := #[Operand.tmp 45, Operand.tmp 47, Operand.tmp 48], argTypes := #[23, 3, 33] }, type := 24, pos := "law.go:42", after := #[{ on := 0, ground := Ground.data }, { on := 2, ground := Ground.data }, { on := 3, ground := Ground.data }], guard := none }) rfl (fun K hK => ?_) AllReadyH.nil
        go_simp
        refine (write_any g own s x _ _ _ _ _ hPL.d (hSd.bts HM8.out HI8.out) (fun _ p hp => (hSd.no p.block (HI8.out p hp).1 (HI8.out p hp).2).1) (by omega)).mono ?_
        rintro e1 wk ⟨rfl, own1, hD1, hdid1⟩
        replace hPL := hPL.callD hD1 hdid1
        replace hSd := hSd.callD hdid1
        replace hk := HGK.out wk hSd.same
        clear hD1 hdid1
        refine hK.out _ _ hk (fun _ => ?_)
        clear hK K
        try simp only [Act.put, List.setIfInBounds_toArray, List.set_cons_zero, List.set_cons_succ]
        refine wpAnyH_ready (rs := [9]) (by decide +kernel) (by simp) ?_
        refine AllReadyH.cons (o := { dst := some 54, op := Op.call { callee := Callee.value (Operand.func 29), args := #[Operand.tmp 50, Operand.tmp 52, Operand.tmp 53], argTypes := #[27, 3, 33] }, type := 3, pos := "law.go:42", after := #[{ on := 5, ground := Ground.data }, { on := 7, ground := Ground.data }, { on := 8, ground := Ground.data }, { on := 4, ground := Ground.chain }], guard := none }) rfl (fun K hK => ?_) AllReadyH.nil
        go_simp
        refine (rwrite_any gx ownx s m x _ _ _ _ _ hPL.x HOK.out (by omega) (HB7.out wk hPL.low) (fun hp p hq hh => by have h1 := HBF.out hp p hq; have h2 := hPL.xw p.block hh; omega)).mono ?_
        rintro e1 wk ⟨rfl, own2, hX1, hdid1⟩
        replace hPL := hPL.callX hX1 hdid1
        replace hSd := hSd.callX hdid1
        replace hk := HGK.out wk hSd.same
        clear hX1 hdid1
        refine hK.out _ _ hk (fun _ => ?_)
        clear hK K
        try simp only [Act.put, List.setIfInBounds_toArray, List.set_cons_zero, List.set_cons_succ]
        refine wpAnyH_take (i := 10) (oi := { dst := some 55, op := Op.binOp BinOp.neq 3 (Operand.tmp 49) (Operand.tmp 54) 3, type := 4, pos := "law.go:42", after := #[{ on := 4, ground := Ground.data }, { on := 9, ground := Ground.data }], guard := none }) (v := ?vdd109) rfl (by kernel_rfl) (by kernel_rfl) (by kernel_rfl) (fun _ _ _ h => h) (Or.inl ⟨by rfl, ?ydd109⟩) hk ?rdd109
        case ydd109 => (intro w hSw; (try dsimp only at hSw); go_simp; first | done | with_reducible rfl)
        simp only [Act.put, List.setIfInBounds_toArray, List.set_cons_zero, List.set_cons_succ]
        refine wpAnyH_done (by decide +kernel) ?_ _
        generalize s.wrE x cc = er
        generalize s.wr x cc = s1 at hPL
        have hrk : wk.heap[gk]? = w4.heap[gk]? := hSd.same gk (Nat.le_refl _) HG0.out
        have HCK : Bx (∀ W : World, W.heap[gk]? = w4.heap[gk]? → W.cell? ⟨gk, 1, none⟩ = some (.int .i64 x)) := ⟨fun W hW => by
          have h1 := HGK.out w4 (fun _ _ _ => rfl)
          exact (World.cell?_of_block (w := w4) hW).trans h1⟩
        have hRB : ∀ G, a8 = some ⟨G, 0, none⟩ → 0 < mb → RowB wk G mb := fun G e hp => by
          obtain ⟨G', e1, h1, h2, h3⟩ := HF84.out hp
          rw [e] at e1
          cases e1
          exact h1 wk (hSd.same G (by omega) h3)
        have HNO : Bx (∀ k, gk ≤ k → k < E → ¬ own1 k ∧ ¬ own2 k) := ⟨hSd.no⟩
        clear hk hSd HGK HM8 HB94
        go_wp2
        go_loopw [11] (fun i wr => ∃ j : Nat, j ≤ mb ∧ i = .int .i64 j ∧ PL w0 wr g gx own1 own2 s1 s1 (m + 1) ∧ wr.heap[gk]? = w4.heap[gk]? ∧ ∀ G, a8 = some ⟨G, 0, none⟩ → 0 < mb → RowB wr G mb) (fun i _ => mb - (intOf i).toNat)
        case atStart => exact ⟨0, Nat.zero_le _, rfl, hPL, hrk, hRB⟩
        case round =>
          clear hPL hrk hRB
          obtain ⟨j, hj, rfl, hPL, hrk, hRB⟩ := hrel
          by_cases hjm : j < mb
          · have hjI : (j : Int) < (mb : Int) := by omega
            obtain ⟨G, e1, _, hG1, hG2⟩ := HF84.out (by omega)
            subst e1
            have hRG := hRB G rfl (by omega)
            obtain ⟨c, hcl, hcb1, hcb2, hfr⟩ := hRG.cell j hjm
            have hno := HNO.out G (by omega) hG2
            have hkq : Kept (fun k => k = G) wr (wr.setCell ⟨G, j, none⟩ (.int .u8 ((c + 1) % 256))) := Kept.setCell (own := fun k => k = G) (Kept.refl _ wr) (.inl rfl) j _
            have HPN : Bx _ := ⟨hPL.other hkq hno (by have := hgw.out; omega)⟩
            have HRN : Bx (∀ G', some (⟨G, 0, none⟩ : Addr) = some ⟨G', 0, none⟩ → 0 < mb → RowB (wr.setCell ⟨G, j, none⟩ (.int .u8 ((c + 1) % 256))) G' mb) := ⟨fun G' e _ => by cases e; exact hRG.set j _ (by omega)⟩
            have HKN : Bx ((wr.setCell ⟨G, j, none⟩ (.int .u8 ((c + 1) % 256))).heap[gk]? = w4.heap[gk]?) := ⟨(heap_setCell_other wr ⟨G, j, none⟩ gk _ (by show gk ≠ G; omega)).trans hrk⟩
            clear hPL hrk hRB hRG hkq hno
            go_wp2
            go_roundw
            case rel => exact ⟨j + 1, by omega, by go_num, HPN.out, HKN.out, HRN.out⟩
            case measure => simp [intOf]; omega
          · obtain rfl : j = mb := by omega
            have hcp := HCK.out wr hrk
            clear hrk hRB
            go_wp2
            go_meet
            case rel => exact ⟨own1, own2, s1, hPL, hcp⟩
      · have g0 : (kd == 0) = false := by simpa using h0
        clear h0
        by_cases h1 : kd = 1
        · subst h1
          clear g0
          go_wp2_with fail
          refine (sync_any g own s _ hPc.d (by omega)).mono ?_
          rintro e wk ⟨rfl, hD1, hkp1⟩
          have hPL := hPc.callD hD1 (Did.same hkp1)
          have hSd := hSdc.callD (Did.same hkp1)
          clear hPc hSdc hD1 hkp1
          go_wp2_with fail
          refine (rsync_any gx ownx s m _ hPL.x HOK.out (by omega)).mono ?_
          rintro e wk2 ⟨rfl, own2, hX1, hdid1⟩
          have hPL2 := (hPL.callX hX1 hdid1).le (Nat.le_succ m)
          have hcp := HGK.out _ (hSd.callX hdid1).same
          clear hPL hSd hX1 hdid1 HGK
          generalize s.syE = er
          generalize s.sy = s1 at hPL2
          go_wp2
          go_meet
          case rel => exact ⟨own, own2, s1, hPL2, hcp⟩
        · have g1 : (kd == 1) = false := by simpa using h1
          clear h1
          by_cases h2 : kd = 2
          · subst h2
            clear g0 g1
            go_upto_region 20 with fail
            have hPL : PL w0 wc.drew g gx own ownx s s m := hPc.drewN 1
            have hSd : Sd w4 wc.drew gk E own ownx := hSdc.drewN 1
            have hk : wc.drew.cell? ⟨gk, 1, none⟩ = some (.int .i64 x) := HGK.out _ hSd.same
            clear hPc hSdc
            refine wp_region_held_drew (S := fun W => W.cell? ⟨gk, 1, none⟩ = some (.int .i64 x)) (by kernel_rfl) hk (fun _ => ?_)
            generalize wc.drew = wk at hk hPL hSd ⊢
            refine wpAnyH_take (i := 0) (oi := { dst := some 79, op := Op.move (Operand.tmp 0), type := 23, pos := "law.go:53", after := #[], guard := none }) (v := ?vdd201) rfl (by kernel_rfl) (by kernel_rfl) (by kernel_rfl) (fun _ _ _ h => h) (Or.inl ⟨by rfl, ?ydd201⟩) hk ?rdd201
            case ydd201 => (intro w hSw; (try dsimp only at hSw); go_simp; first | done | with_reducible rfl)
            simp only [Act.put, List.setIfInBounds_toArray, List.set_cons_zero, List.set_cons_succ]
            refine wpAnyH_take (i := 1) (oi := { dst := some 80, op := Op.fieldAddr 36 (Operand.tmp 5) 1, type := 0, pos := "law.go:53", after := #[], guard := none }) (v := ?vdd202) rfl (by kernel_rfl) (by kernel_rfl) (by kernel_rfl) (fun _ _ _ h => h) (Or.inl ⟨by rfl, ?ydd202⟩) hk ?rdd202
            case ydd202 => (intro w hSw; (try dsimp only at hSw); go_simp; first | done | with_reducible rfl)
            simp only [Act.put, List.setIfInBounds_toArray, List.set_cons_zero, List.set_cons_succ]
            refine wpAnyH_take (i := 2) (oi := { dst := some 81, op := Op.load 3 (Operand.tmp 80), type := 3, pos := "law.go:53", after := #[{ on := 1, ground := Ground.data }], guard := none }) (v := ?vdd203) rfl (by kernel_rfl) (by kernel_rfl) (by kernel_rfl) (fun _ _ _ h => h) (Or.inl ⟨by rfl, ?ydd203⟩) hk ?rdd203
            case ydd203 => (intro w hSw; have hcw := hSw; clear hSw; go_simp; first | done | with_reducible rfl)
            simp only [Act.put, List.setIfInBounds_toArray, List.set_cons_zero, List.set_cons_succ]
            refine wpAnyH_take (i := 4) (oi := { dst := some 83, op := Op.move (Operand.tmp 1), type := 27, pos := "law.go:53", after := #[], guard := none }) (v := ?vdd204) rfl (by kernel_rfl) (by kernel_rfl) (by kernel_rfl) (fun _ _ _ h => h) (Or.inl ⟨by rfl, ?ydd204⟩) hk ?rdd204
            case ydd204 => (intro w hSw; (try dsimp only at hSw); go_simp; first | done | with_reducible rfl)
            simp only [Act.put, List.setIfInBounds_toArray, List.set_cons_zero, List.set_cons_succ]
            refine wpAnyH_take (i := 5) (oi := { dst := some 84, op := Op.fieldAddr 36 (Operand.tmp 5) 1, type := 0, pos := "law.go:53", after := #[], guard := none }) (v := ?vdd205) rfl (by kernel_rfl) (by kernel_rfl) (by kernel_rfl) (fun _ _ _ h => h) (Or.inl ⟨by rfl, ?ydd205⟩) hk ?rdd205
            case ydd205 => (intro w hSw; (try dsimp only at hSw); go_simp; first | done | with_reducible rfl)
            simp only [Act.put, List.setIfInBounds_toArray, List.set_cons_zero, List.set_cons_succ]
            refine wpAnyH_take (i := 6) (oi := { dst := some 85, op := Op.load 3 (Operand.tmp 84), type := 3, pos := "law.go:53", after := #[{ on := 5, ground := Ground.data }], guard := none }) (v := ?vdd206) rfl (by kernel_rfl) (by kernel_rfl) (by kernel_rfl) (fun _ _ _ h => h) (Or.inl ⟨by rfl, ?ydd206⟩) hk ?rdd206
            case ydd206 => (intro w hSw; have hcw := hSw; clear hSw; go_simp; first | done | with_reducible rfl)
            simp only [Act.put, List.setIfInBounds_toArray, List.set_cons_zero, List.set_cons_succ]
            refine wpAnyH_ready (rs := [3]) (by decide +kernel) (by simp) ?_
            refine AllReadyH.cons (o := { dst := some 82, op := Op.call { callee := Callee.value (Operand.func 25), args := #[Operand.tmp 79, Operand.tmp 81], argTypes := #[23, 3] }, type := 24, pos := "law.go:53", after := #[{ on := 0, ground := Ground.data }, { on := 2, ground := Ground.data }], guard := none }) rfl (fun K hK => ?_) AllReadyH.nil
            go_simp
            refine (arm_any g own s x _ hPL.d hxm).mono ?_
            rintro e1 wk ⟨rfl, hD1, hkp1⟩
            replace hPL := hPL.callD hD1 (Did.same hkp1)
            replace hSd := hSd.callD (Did.same hkp1)
            replace hk := HGK.out wk hSd.same
            clear hD1 hkp1
            refine hK.out _ _ hk (fun _ => ?_)
            clear hK K
            try simp only [Act.put, List.setIfInBounds_toArray, List.set_cons_zero, List.set_cons_succ]
            refine wpAnyH_ready (rs := [7]) (by decide +kernel) (by simp) ?_
            refine AllReadyH.cons (o := { dst := some 86, op := Op.call { callee := Callee.value (Operand.func 31), args := #[Operand.tmp 83, Operand.tmp 85], argTypes := #[27, 3] }, type := 3, pos := "law.go:53", after := #[{ on := 4, ground := Ground.data }, { on := 6, ground := Ground.data }, { on := 3, ground := Ground.chain }], guard := none }) rfl (fun K hK => ?_) AllReadyH.nil
            go_simp
            refine (rarm_any gx ownx s m x _ hPL.x hxm).mono ?_
            rintro e1 wk ⟨rfl, hX1, hkp1⟩
            replace hPL := hPL.callX hX1 (Did.same hkp1)
            replace hSd := hSd.callX (Did.same hkp1)
            replace hk := HGK.out wk hSd.same
            clear hX1 hkp1
            refine hK.out _ _ hk (fun _ => ?_)
            clear hK K
            try simp only [Act.put, List.setIfInBounds_toArray, List.set_cons_zero, List.set_cons_succ]
            refine wpAnyH_take (i := 8) (oi := { dst := some 87, op := Op.binOp BinOp.neq 3 (Operand.tmp 82) (Operand.tmp 86) 3, type := 4, pos := "law.go:53", after := #[{ on := 3, ground := Ground.data }, { on := 7, ground := Ground.data }], guard := none }) (v := ?vdd207) rfl (by kernel_rfl) (by kernel_rfl) (by kernel_rfl) (fun _ _ _ h => h) (Or.inl ⟨by rfl, ?ydd207⟩) hk ?rdd207
            case ydd207 => (intro w hSw; (try dsimp only at hSw); go_simp; first | done | with_reducible rfl)
            simp only [Act.put, List.setIfInBounds_toArray, List.set_cons_zero, List.set_cons_succ]
            refine wpAnyH_done (by decide +kernel) ?_ _
            generalize s.arE x = er
            generalize s.ar x = s1 at hPL
            have hPL2 := hPL.le (Nat.le_succ m)
            clear hPL hSd HGK
            go_wp2
            go_meet
            case rel => exact ⟨own, ownx, s1, hPL2, hk⟩
          · have g2 : (kd == 2) = false := by simpa using h2
            clear h2
            by_cases h3 : kd = 3
            · subst h3
              clear g0 g1 g2
              go_wp2_with fail
              refine (crash_any g own s a9 n9 c9 KK _ hPc.d (hSdc.bls HB94.out HI9.out) (fun _ p hp => (hSdc.no p.block (HI9.out p hp).1 (HI9.out p hp).2).1) (by omega)).mono ?_
              rintro e wk ⟨rfl, hD1, hkp1⟩
              have hPL := hPc.callD hD1 (Did.same hkp1)
              have hSd := hSdc.callD (Did.same hkp1)
              clear hPc hSdc hD1 hkp1
              go_wp2_with fail
              refine (rcrash_any gx ownx s m a9 n9 c9 KK _ hPL.x (by omega) (hSd.bls HB94.out HI9.out)).mono ?_
              rintro e wk2 ⟨⟨uu, rfl⟩, own2, hX1, hdid1⟩
              have hPL2 := (hPL.callX hX1 hdid1).le (Nat.le_succ m)
              have hcp := HGK.out _ (hSd.callX hdid1).same
              clear hPL hSd hX1 hdid1 HGK
              generalize s.cr KK = s1 at hPL2
              go_wp2
              go_meet
              case rel => exact ⟨own, own2, s1, hPL2, hcp⟩
            · have g3 : (kd == 3) = false := by simpa using h3
              clear h3
              have hPL2 := hPc.le (Nat.le_succ m)
              have hcp := HGK.out _ hSdc.same
              clear hPc hSdc HGK
              go_wp2
              go_meet
              case rel => exact ⟨own, ownx, s, hPL2, hcp⟩
    case rest =>
      clear hPc hSdc HGK HM8 HB94 HF84 HI8 HI9
      obtain ⟨own2, ownx2, s2, hPL, cpos⟩ := hcut
      clear own ownx
      have hOm2 := hPL.x.open_le
      have HDL2 : Bx (∀ k, own2 k → k < wc.heap.size) := ⟨hPL.d.lt⟩
      have HXL2 : Bx (∀ k, ownx2 k → k < wc.heap.size) := ⟨hPL.x.lt⟩
      have HWC : Bx (w0.heap.size ≤ wc.heap.size) := ⟨hPL.low.size⟩
      go_wp2_with fail
      refine (read_any g own2 s2 x _ hPL.d).mono ?_
      rintro e wt1 ⟨vp, rfl, hownp, hb1⟩
      replace hPL := hPL.step hb1
      have cpos1 := (hb1.cell (World.block_lt_of_cell? _ _ cpos)).trans cpos
      have hby := DS.rdL_byt hPL.d.ok x
      clear cpos hb1
      go_wp2_with fail
      refine (rread_any gx ownx2 s2 (m + 1) x _ hPL.x (by omega)).mono ?_
      rintro e wt2 ⟨vq, rfl, hownq, hb2⟩
      obtain ⟨aq, cq, rfl, hq⟩ := Bts.of_owns hownq hby
      obtain ⟨ap, cp, rfl, hp0⟩ := Bts.of_owns hownp hby
      have hp := hp0.below hb2
      replace hPL := hPL.step hb2
      have hownp2 := owns_below hownp hb2
      obtain ⟨nr, hnr⟩ : ∃ nr, nr = (s2.rdL x).length := ⟨_, rfl⟩
      rw [← hnr] at hp hq hownp2 ⊢
      have hcp1 := hp.le_cap
      have hcp2 := hp.cap_le
      unfold maxLen at hcp2
      have HF : Bx (0 < nr → ∃ G, ap = some ⟨G, 0, none⟩ ∧ RowB wt2 G nr ∧ wc.heap.size ≤ G) := ⟨fun hpos => by
        obtain ⟨G, cG, e1, hG, _⟩ := owns_form hownp2 hpos
        injection e1 with e1
        subst e1
        exact ⟨G, rfl, rowB_owns hownp2 hby, hG⟩⟩
      generalize s2.rdL x = lr at hp hq
      generalize s2.rdE x = er
      clear hownp hownq hp0 hb2 hownp2 hby hnr cpos1
      go_wp2_with fail
      refine (same_yes ap aq nr nr cp cq lr _ hp hq).mono ?_
      rintro e wt3 ⟨rfl, q3, hq3⟩
      have hPL3 : PL w0 wt3 g gx own2 ownx2 s2 s2 (m + 1) := by rw [hq3]; exact hPL.drewN q3
      have hRB : ∀ G, ap = some ⟨G, 0, none⟩ → 0 < nr → RowB wt3 G nr := fun G e hpos => by
        obtain ⟨G', e1, h1, _⟩ := HF.out hpos
        rw [e] at e1
        cases e1
        rw [hq3]
        obtain ⟨cs, h3, h4⟩ := h1.row
        exact ⟨cs, h3, h4⟩
      clear hq3 hPL hp hq
      go_wp2
      go_loopw [16] (fun i wr => ∃ j : Nat, j ≤ nr ∧ i = .int .i64 j ∧ PL w0 wr g gx own2 ownx2 s2 s2 (m + 1) ∧ ∀ G, ap = some ⟨G, 0, none⟩ → 0 < nr → RowB wr G nr) (fun i _ => nr - (intOf i).toNat)
      case atStart => exact ⟨0, Nat.zero_le _, rfl, hPL3, hRB⟩
      case round =>
        clear hPL3 hRB
        obtain ⟨j, hj, rfl, hPL, hRB⟩ := hrel
        by_cases hjn : j < nr
        · have hjI : (j : Int) < (nr : Int) := by omega
          obtain ⟨G, e1, _, hG⟩ := HF.out (by omega)
          subst e1
          have hRG := hRB G rfl (by omega)
          obtain ⟨c, hcl, hcb1, hcb2, hfr⟩ := hRG.cell j hjn
          have hno : ¬ own2 G ∧ ¬ ownx2 G := ⟨fun hh => by have := HDL2.out G hh; omega, fun hh => by have := HXL2.out G hh; omega⟩
          have hkq : Kept (fun k => k = G) wr (wr.setCell ⟨G, j, none⟩ (.int .u8 99)) := Kept.setCell (own := fun k => k = G) (Kept.refl _ wr) (.inl rfl) j _
          have HPN : Bx _ := ⟨hPL.other hkq hno (by have := HWC.out; omega)⟩
          have HRN : Bx (∀ G', some (⟨G, 0, none⟩ : Addr) = some ⟨G', 0, none⟩ → 0 < nr → RowB (wr.setCell ⟨G, j, none⟩ (.int .u8 99)) G' nr) := ⟨fun G' e _ => by cases e; exact hRG.set j _ (by decide)⟩
          clear hPL hRB hRG hkq hno
          go_wp2
          go_roundw
          case rel => exact ⟨j + 1, by omega, by go_num, HPN.out, HRN.out⟩
          case measure => simp [intOf]; omega
        · obtain rfl : j = nr := by omega
          obtain ⟨wt, hwt⟩ : ∃ wt, wt = wr := ⟨_, rfl⟩
          subst hwt
          clear hRB HF
          go_upto_region 34 with fail
          have hk : PL w0 wt.drew g gx own2 ownx2 s2 s2 (m + 1) := hPL.drewN 1
          clear hPL
          refine wp_region_held_drew (S := fun W => PL w0 W g gx own2 ownx2 s2 s2 (m + 1)) (by kernel_rfl) hk (fun _ => ?_)
          generalize wt.drew = wk at hk ⊢
          refine wpAnyH_take (i := 0) (oi := { dst := some 129, op := Op.move (Operand.tmp 0), type := 23, pos := "law.go:70", after := #[], guard := none }) (v := ?vdd341) rfl (by kernel_rfl) (by kernel_rfl) (by kernel_rfl) (fun _ _ _ h => h) (Or.inl ⟨by rfl, ?ydd341⟩) hk ?rdd341
          case ydd341 => (intro w hSw; (try dsimp only at hSw); go_simp; first | done | with_reducible rfl)
          simp only [Act.put, List.setIfInBounds_toArray, List.set_cons_zero, List.set_cons_succ]
          refine wpAnyH_take (i := 2) (oi := { dst := some 131, op := Op.move (Operand.tmp 1), type := 27, pos := "law.go:70", after := #[], guard := none }) (v := ?vdd342) rfl (by kernel_rfl) (by kernel_rfl) (by kernel_rfl) (fun _ _ _ h => h) (Or.inl ⟨by rfl, ?ydd342⟩) hk ?rdd342
          case ydd342 => (intro w hSw; (try dsimp only at hSw); go_simp; first | done | with_reducible rfl)
          simp only [Act.put, List.setIfInBounds_toArray, List.set_cons_zero, List.set_cons_succ]
          refine wpAnyH_ready (rs := [1]) (by decide +kernel) (by simp) ?_
          refine AllReadyH.cons (o := { dst := some 130, op := Op.call { callee := Callee.value (Operand.func 15), args := #[Operand.tmp 129], argTypes := #[23] }, type := 3, pos := "law.go:70", after := #[{ on := 0, ground := Ground.data }], guard := none }) rfl (fun K hK => ?_) AllReadyH.nil
          go_simp
          refine (open_any g own2 s2 _ hk.d).mono ?_
          rintro e1 wx ⟨rfl, hwx⟩
          subst hwx
          refine hK.out _ _ hk (fun _ => ?_)
          clear hK K
          try simp only [Act.put, List.setIfInBounds_toArray, List.set_cons_zero, List.set_cons_succ]
          refine wpAnyH_ready (rs := [3]) (by decide +kernel) (by simp) ?_
          refine AllReadyH.cons (o := { dst := some 132, op := Op.call { callee := Callee.value (Operand.func 34), args := #[Operand.tmp 131], argTypes := #[27] }, type := 3, pos := "law.go:70", after := #[{ on := 2, ground := Ground.data }, { on := 1, ground := Ground.chain }], guard := none }) rfl (fun K hK => ?_) AllReadyH.nil
          go_simp
          refine (ropen_any gx ownx2 s2 (m + 1) _ hk.x (by omega)).mono ?_
          rintro e1 wx ⟨rfl, hwx⟩
          subst hwx
          refine hK.out _ _ hk (fun _ => ?_)
          clear hK K
          try simp only [Act.put, List.setIfInBounds_toArray, List.set_cons_zero, List.set_cons_succ]
          refine wpAnyH_take (i := 4) (oi := { dst := some 133, op := Op.binOp BinOp.eql 3 (Operand.tmp 130) (Operand.tmp 132) 3, type := 4, pos := "law.go:70", after := #[{ on := 1, ground := Ground.data }, { on := 3, ground := Ground.data }], guard := none }) (v := ?vdd343) rfl (by kernel_rfl) (by kernel_rfl) (by kernel_rfl) (fun _ _ _ h => h) (Or.inl ⟨by rfl, ?ydd343⟩) hk ?rdd343
          case ydd343 => (intro w hSw; (try dsimp only at hSw); go_simp; first | done | with_reducible rfl)
          simp only [Act.put, List.setIfInBounds_toArray, List.set_cons_zero, List.set_cons_succ]
          refine wpAnyH_take (i := 5) (oi := { dst := some 134, op := Op.move (Operand.tmp 133), type := 4, pos := "law.go:70", after := #[{ on := 4, ground := Ground.data }, { on := 3, ground := Ground.chain }], guard := none }) (v := ?vdd344) rfl (by kernel_rfl) (by kernel_rfl) (by kernel_rfl) (fun _ _ _ h => h) (Or.inl ⟨by rfl, ?ydd344⟩) hk ?rdd344
          case ydd344 => (intro w hSw; (try dsimp only at hSw); go_simp; first | done | with_reducible rfl)
          simp only [Act.put, List.setIfInBounds_toArray, List.set_cons_zero, List.set_cons_succ]
          refine wpAnyH_take (i := 6) (oi := { dst := some 135, op := Op.move (Operand.tmp 0), type := 23, pos := "law.go:70", after := #[{ on := 5, ground := Ground.guard }], guard := some (5, true) }) (v := ?vdd345) rfl (by kernel_rfl) (by kernel_rfl) (by kernel_rfl) (fun _ _ _ h => h) (Or.inl ⟨by rfl, ?ydd345⟩) hk ?rdd345
          case ydd345 => (intro w hSw; (try dsimp only at hSw); go_simp; first | done | with_reducible rfl)
          simp only [Act.put, List.setIfInBounds_toArray, List.set_cons_zero, List.set_cons_succ]
          refine wpAnyH_take (i := 8) (oi := { dst := some 137, op := Op.move (Operand.tmp 1), type := 27, pos := "law.go:70", after := #[{ on := 5, ground := Ground.guard }], guard := some (5, true) }) (v := ?vdd346) rfl (by kernel_rfl) (by kernel_rfl) (by kernel_rfl) (fun _ _ _ h => h) (Or.inl ⟨by rfl, ?ydd346⟩) hk ?rdd346
          case ydd346 => (intro w hSw; (try dsimp only at hSw); go_simp; first | done | with_reducible rfl)
          simp only [Act.put, List.setIfInBounds_toArray, List.set_cons_zero, List.set_cons_succ]
          refine wpAnyH_take (i := 9) (oi := { dst := some 138, op := Op.nilCheck (Operand.tmp 137), type := 0, pos := "law.go:70", after := #[{ on := 8, ground := Ground.data }, { on := 5, ground := Ground.guard }], guard := some (5, true) }) (v := ?vdd347) rfl (by kernel_rfl) (by kernel_rfl) (by kernel_rfl) (fun _ _ _ h => h) (Or.inl ⟨by rfl, ?ydd347⟩) hk ?rdd347
          case ydd347 => (intro w hSw; (try dsimp only at hSw); go_simp; first | done | with_reducible rfl)
          simp only [Act.put, List.setIfInBounds_toArray, List.set_cons_zero, List.set_cons_succ]
          refine wpAnyH_take (i := 10) (oi := { dst := some 139, op := Op.fieldAddr 65 (Operand.tmp 138) 3, type := 0, pos := "law.go:70", after := #[{ on := 9, ground := Ground.data }, { on := 5, ground := Ground.guard }], guard := some (5, true) }) (v := ?vdd348) rfl (by kernel_rfl) (by kernel_rfl) (by kernel_rfl) (fun _ _ _ h => h) (Or.inl ⟨by rfl, ?ydd348⟩) hk ?rdd348
          case ydd348 => (intro w hSw; (try dsimp only at hSw); go_simp; first | done | with_reducible rfl)
          simp only [Act.put, List.setIfInBounds_toArray, List.set_cons_zero, List.set_cons_succ]
          refine wpAnyH_take (i := 11) (oi := { dst := some 140, op := Op.load 4 (Operand.tmp 139), type := 4, pos := "law.go:70", after := #[{ on := 10, ground := Ground.data }, { on := 5, ground := Ground.guard }], guard := some (5, true) }) (v := ?vdd349) rfl (by kernel_rfl) (by kernel_rfl) (by kernel_rfl) (fun _ _ _ h => h) (Or.inl ⟨by rfl, ?ydd349⟩) hk ?rdd349
          case ydd349 => (intro w hSw; have hcw := hSw.x.cells.1; clear hSw; go_simp; first | done | with_reducible rfl)
          simp only [Act.put, List.setIfInBounds_toArray, List.set_cons_zero, List.set_cons_succ]
          refine wpAnyH_take (i := 12) (oi := { dst := some 141, op := Op.unOp UnOp.not 4 (Operand.tmp 140), type := 4, pos := "law.go:70", after := #[{ on := 11, ground := Ground.data }, { on := 5, ground := Ground.guard }], guard := some (5, true) }) (v := ?vdd3410) rfl (by kernel_rfl) (by kernel_rfl) (by kernel_rfl) (fun _ _ _ h => h) (Or.inl ⟨by rfl, ?ydd3410⟩) hk ?rdd3410
          case ydd3410 => (intro w hSw; (try dsimp only at hSw); go_simp; first | done | with_reducible rfl)
          simp only [Act.put, List.setIfInBounds_toArray, List.set_cons_zero, List.set_cons_succ]
          refine wpAnyH_ready (rs := [7]) (by decide +kernel) (by simp) ?_
          refine AllReadyH.cons (o := { dst := some 136, op := Op.call { callee := Callee.value (Operand.func 26), args := #[Operand.tmp 135], argTypes := #[23] }, type := 4, pos := "law.go:70", after := #[{ on := 6, ground := Ground.data }, { on := 5, ground := Ground.chain }, { on := 5, ground := Ground.guard }], guard := some (5, true) }) rfl (fun K hK => ?_) AllReadyH.nil
          go_simp
          refine (off_any g own2 s2 _ hk.d).mono ?_
          rintro e1 wx ⟨rfl, hwx⟩
          subst hwx
          refine hK.out _ _ hk (fun _ => ?_)
          clear hK K
          try simp only [Act.put, List.setIfInBounds_toArray, List.set_cons_zero, List.set_cons_succ]
          refine wpAnyH_take (i := 13) (oi := { dst := some 142, op := Op.binOp BinOp.eql 4 (Operand.tmp 136) (Operand.tmp 141) 4, type := 4, pos := "law.go:70", after := #[{ on := 7, ground := Ground.data }, { on := 12, ground := Ground.data }, { on := 5, ground := Ground.guard }], guard := some (5, true) }) (v := ?vdd3411) rfl (by kernel_rfl) (by kernel_rfl) (by kernel_rfl) (fun _ _ _ h => h) (Or.inl ⟨by rfl, ?ydd3411⟩) hk ?rdd3411
          case ydd3411 => (intro w hSw; (try dsimp only at hSw); go_simp; first | done | with_reducible rfl)
          simp only [Act.put, List.setIfInBounds_toArray, List.set_cons_zero, List.set_cons_succ]
          refine wpAnyH_take (i := 14) (oi := { dst := some 143, op := Op.pick (Operand.tmp 134) (Operand.tmp 142) (Operand.const (Value.bool false)), type := 4, pos := "law.go:70", after := #[{ on := 5, ground := Ground.data }, { on := 13, ground := Ground.data }], guard := none }) (v := ?vdd3412) rfl (by kernel_rfl) (by kernel_rfl) (by kernel_rfl) (fun _ _ _ h => h) (Or.inl ⟨by rfl, ?ydd3412⟩) hk ?rdd3412
          case ydd3412 => (intro w hSw; (try dsimp only at hSw); go_simp; first | done | with_reducible rfl)
          simp only [Act.put, List.setIfInBounds_toArray, List.set_cons_zero, List.set_cons_succ]
          refine wpAnyH_take (i := 15) (oi := { dst := some 144, op := Op.move (Operand.tmp 143), type := 4, pos := "law.go:70", after := #[{ on := 14, ground := Ground.data }, { on := 7, ground := Ground.chain }], guard := none }) (v := ?vdd3413) rfl (by kernel_rfl) (by kernel_rfl) (by kernel_rfl) (fun _ _ _ h => h) (Or.inl ⟨by rfl, ?ydd3413⟩) hk ?rdd3413
          case ydd3413 => (intro w hSw; (try dsimp only at hSw); go_simp; first | done | with_reducible rfl)
          simp only [Act.put, List.setIfInBounds_toArray, List.set_cons_zero, List.set_cons_succ]
          refine wpAnyH_take (i := 16) (oi := { dst := some 145, op := Op.move (Operand.tmp 0), type := 23, pos := "law.go:70", after := #[{ on := 15, ground := Ground.guard }], guard := some (15, true) }) (v := ?vdd3414) rfl (by kernel_rfl) (by kernel_rfl) (by kernel_rfl) (fun _ _ _ h => h) (Or.inl ⟨by rfl, ?ydd3414⟩) hk ?rdd3414
          case ydd3414 => (intro w hSw; (try dsimp only at hSw); go_simp; first | done | with_reducible rfl)
          simp only [Act.put, List.setIfInBounds_toArray, List.set_cons_zero, List.set_cons_succ]
          refine wpAnyH_take (i := 18) (oi := { dst := some 147, op := Op.move (Operand.tmp 1), type := 27, pos := "law.go:70", after := #[{ on := 15, ground := Ground.guard }], guard := some (15, true) }) (v := ?vdd3415) rfl (by kernel_rfl) (by kernel_rfl) (by kernel_rfl) (fun _ _ _ h => h) (Or.inl ⟨by rfl, ?ydd3415⟩) hk ?rdd3415
          case ydd3415 => (intro w hSw; (try dsimp only at hSw); go_simp; first | done | with_reducible rfl)
          simp only [Act.put, List.setIfInBounds_toArray, List.set_cons_zero, List.set_cons_succ]
          refine wpAnyH_take (i := 19) (oi := { dst := some 148, op := Op.nilCheck (Operand.tmp 147), type := 0, pos := "law.go:70", after := #[{ on := 18, ground := Ground.data }, { on := 15, ground := Ground.guard }], guard := some (15, true) }) (v := ?vdd3416) rfl (by kernel_rfl) (by kernel_rfl) (by kernel_rfl) (fun _ _ _ h => h) (Or.inl ⟨by rfl, ?ydd3416⟩) hk ?rdd3416
          case ydd3416 => (intro w hSw; (try dsimp only at hSw); go_simp; first | done | with_reducible rfl)
          simp only [Act.put, List.setIfInBounds_toArray, List.set_cons_zero, List.set_cons_succ]
          refine wpAnyH_take (i := 20) (oi := { dst := some 149, op := Op.fieldAddr 65 (Operand.tmp 148) 0, type := 0, pos := "law.go:70", after := #[{ on := 19, ground := Ground.data }, { on := 15, ground := Ground.guard }], guard := some (15, true) }) (v := ?vdd3417) rfl (by kernel_rfl) (by kernel_rfl) (by kernel_rfl) (fun _ _ _ h => h) (Or.inl ⟨by rfl, ?ydd3417⟩) hk ?rdd3417
          case ydd3417 => (intro w hSw; (try dsimp only at hSw); go_simp; first | done | with_reducible rfl)
          simp only [Act.put, List.setIfInBounds_toArray, List.set_cons_zero, List.set_cons_succ]
          refine wpAnyH_take (i := 21) (oi := { dst := some 150, op := Op.load 3 (Operand.tmp 149), type := 3, pos := "law.go:70", after := #[{ on := 20, ground := Ground.data }, { on := 15, ground := Ground.guard }], guard := some (15, true) }) (v := ?vdd3418) rfl (by kernel_rfl) (by kernel_rfl) (by kernel_rfl) (fun _ _ _ h => h) (Or.inl ⟨by rfl, ?ydd3418⟩) hk ?rdd3418
          case ydd3418 => (intro w hSw; have hcw := hSw.x.cells.2; clear hSw; go_simp; first | done | with_reducible rfl)
          simp only [Act.put, List.setIfInBounds_toArray, List.set_cons_zero, List.set_cons_succ]
          refine wpAnyH_ready (rs := [17]) (by decide +kernel) (by simp) ?_
          refine AllReadyH.cons (o := { dst := some 146, op := Op.call { callee := Callee.value (Operand.func 28), args := #[Operand.tmp 145], argTypes := #[23] }, type := 3, pos := "law.go:70", after := #[{ on := 16, ground := Ground.data }, { on := 15, ground := Ground.chain }, { on := 15, ground := Ground.guard }], guard := some (15, true) }) rfl (fun K hK => ?_) AllReadyH.nil
          go_simp
          refine (sectors_any g own2 s2 _ hk.d).mono ?_
          rintro e1 wx ⟨rfl, hwx⟩
          subst hwx
          refine hK.out _ _ hk (fun _ => ?_)
          clear hK K
          try simp only [Act.put, List.setIfInBounds_toArray, List.set_cons_zero, List.set_cons_succ]
          refine wpAnyH_take (i := 22) (oi := { dst := some 151, op := Op.binOp BinOp.eql 3 (Operand.tmp 146) (Operand.tmp 150) 3, type := 4, pos := "law.go:70", after := #[{ on := 17, ground := Ground.data }, { on := 21, ground := Ground.data }, { on := 15, ground := Ground.guard }], guard := some (15, true) }) (v := ?vdd3419) rfl (by kernel_rfl) (by kernel_rfl) (by kernel_rfl) (fun _ _ _ h => h) (Or.inl ⟨by rfl, ?ydd3419⟩) hk ?rdd3419
          case ydd3419 => (intro w hSw; (try dsimp only at hSw); go_simp; first | done | with_reducible rfl)
          simp only [Act.put, List.setIfInBounds_toArray, List.set_cons_zero, List.set_cons_succ]
          refine wpAnyH_take (i := 23) (oi := { dst := some 152, op := Op.pick (Operand.tmp 144) (Operand.tmp 151) (Operand.const (Value.bool false)), type := 4, pos := "law.go:70", after := #[{ on := 15, ground := Ground.data }, { on := 22, ground := Ground.data }], guard := none }) (v := ?vdd3420) rfl (by kernel_rfl) (by kernel_rfl) (by kernel_rfl) (fun _ _ _ h => h) (Or.inl ⟨by rfl, ?ydd3420⟩) hk ?rdd3420
          case ydd3420 => (intro w hSw; (try dsimp only at hSw); go_simp; first | done | with_reducible rfl)
          simp only [Act.put, List.setIfInBounds_toArray, List.set_cons_zero, List.set_cons_succ]
          refine wpAnyH_take (i := 24) (oi := { dst := some 6, op := Op.assign (Operand.tmp 152), type := 4, pos := "law.go:70", after := #[{ on := 23, ground := Ground.data }, { on := 17, ground := Ground.chain }, { on := 0, ground := Ground.phase }, { on := 1, ground := Ground.phase }, { on := 2, ground := Ground.phase }, { on := 3, ground := Ground.phase }, { on := 4, ground := Ground.phase }, { on := 5, ground := Ground.phase }, { on := 6, ground := Ground.phase }, { on := 7, ground := Ground.phase }, { on := 8, ground := Ground.phase }, { on := 9, ground := Ground.phase }, { on := 10, ground := Ground.phase }, { on := 11, ground := Ground.phase }, { on := 12, ground := Ground.phase }, { on := 13, ground := Ground.phase }, { on := 14, ground := Ground.phase }, { on := 15, ground := Ground.phase }, { on := 16, ground := Ground.phase }, { on := 17, ground := Ground.phase }, { on := 18, ground := Ground.phase }, { on := 19, ground := Ground.phase }, { on := 20, ground := Ground.phase }, { on := 21, ground := Ground.phase }, { on := 22, ground := Ground.phase }, { on := 23, ground := Ground.phase }], guard := none }) (v := ?vdd3421) rfl (by kernel_rfl) (by kernel_rfl) (by kernel_rfl) (fun _ _ _ h => h) (Or.inl ⟨by rfl, ?ydd3421⟩) hk ?rdd3421
          case ydd3421 => (intro w hSw; (try dsimp only at hSw); go_simp; first | done | with_reducible rfl)
          simp only [Act.put, List.setIfInBounds_toArray, List.set_cons_zero, List.set_cons_succ]
          refine wpAnyH_done (by decide +kernel) ?_ _
          go_wp2
          go_ret
          exact ⟨rfl, own2, ownx2, s2, hk⟩
end Go.Proofs.Ytihmfnndnjhpbaa
