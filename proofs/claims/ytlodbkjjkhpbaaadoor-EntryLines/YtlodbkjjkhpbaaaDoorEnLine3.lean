/- A verdict in words: the document's own. -/
import Derived.Test.YtlodbkjjkhpbaaaDoorEnLine2
namespace Go.Proofs.YtlodbkjjkhpbaaaDoor
open Go.RowKit
set_option linter.unusedVariables false

set_option maxHeartbeats 4000000 in
set_option maxRecDepth 100000 in
theorem refword_any (k : Int) (w : World) : Calls Tryd.prog 8 #[.int .i64 k] w fun x w' => x = .returned (.string (wordS k)) ∧ Below w.heap.size w w' := by
  by_cases h1 : k < 0
  · have HF : Bx (wordS k = ⟨#[]⟩) := ⟨by unfold wordS; rw [if_neg (by omega), if_neg (by omega), if_neg (by omega), if_neg (by omega)]⟩
    go_enter Tryd.func8, Tryd.ntmps8
    go_wp2_with fail
    go_ret
    exact ⟨by rw [HF.out]; rfl, (Below.refl _ _).alloc (Nat.le_refl _) _⟩
  by_cases h2 : 4 < k
  · have HF : Bx (wordS k = ⟨#[]⟩) := ⟨by unfold wordS; rw [if_neg (by omega), if_neg (by omega), if_neg (by omega), if_neg (by omega)]⟩
    go_enter Tryd.func8, Tryd.ntmps8
    go_wp2_with fail
    go_ret
    exact ⟨by rw [HF.out]; rfl, (Below.refl _ _).alloc (Nat.le_refl _) _⟩
  have h3 : k = 0 ∨ k = 1 ∨ k = 2 ∨ k = 3 ∨ k = 4 := by omega
  clear h1 h2
  rcases h3 with rfl | rfl | rfl | rfl | rfl
  · skip
    have HF : Bx (wordS 0 = ⟨#[]⟩) := ⟨rfl⟩
    go_enter Tryd.func8, Tryd.ntmps8
    go_wp2_with fail
    go_ret
    exact ⟨by rw [HF.out]; rfl, (Below.refl _ _).alloc (Nat.le_refl _) _⟩
  · skip
    have HF : Bx (wordS 1 = ⟨#[102, 105, 116, 115]⟩) := ⟨rfl⟩
    go_enter Tryd.func8, Tryd.ntmps8
    go_wp2_with fail
    go_ret
    exact ⟨by rw [HF.out]; rfl, (Below.refl _ _).alloc (Nat.le_refl _) _⟩
  · skip
    have HF : Bx (wordS 2 = ⟨#[102, 105, 116, 115, 45, 110, 111, 116]⟩) := ⟨rfl⟩
    go_enter Tryd.func8, Tryd.ntmps8
    go_wp2_with fail
    go_ret
    exact ⟨by rw [HF.out]; rfl, (Below.refl _ _).alloc (Nat.le_refl _) _⟩
  · skip
    have HF : Bx (wordS 3 = ⟨#[111, 117, 116, 45, 111, 102, 45, 102, 117, 101, 108]⟩) := ⟨rfl⟩
    go_enter Tryd.func8, Tryd.ntmps8
    go_wp2_with fail
    go_ret
    exact ⟨by rw [HF.out]; rfl, (Below.refl _ _).alloc (Nat.le_refl _) _⟩
  · skip
    have HF : Bx (wordS 4 = ⟨#[111, 117, 116, 45, 111, 102, 45, 116, 114, 105, 101, 115]⟩) := ⟨rfl⟩
    go_enter Tryd.func8, Tryd.ntmps8
    go_wp2_with fail
    go_ret
    exact ⟨by rw [HF.out]; rfl, (Below.refl _ _).alloc (Nat.le_refl _) _⟩
/-- the line so far -/
def accS (k r : Int) (o : List Int) (m : Nat) : ByteArray := headS k r ++ jnS (o.take m)
set_option maxRecDepth 100000 in
theorem ba_app (a b : ByteArray) : (a ++ b).data.toList = a.data.toList ++ b.data.toList := by rw [ByteArray.data_append, Array.toList_append]
set_option maxRecDepth 100000 in
theorem ba_list (l : List UInt8) : (⟨l.toArray⟩ : ByteArray).data.toList = l := rfl
set_option maxRecDepth 100000 in
theorem jn_zero (k r : Int) (o : List Int) : headS k r = accS k r o 0 := by
  apply ba_ext
  unfold accS
  rw [ba_app]
  show _ = _ ++ (jnL []) 
  rw [show jnL [] = [] from rfl, List.append_nil]
set_option maxRecDepth 100000 in
theorem jn_one (k r : Int) {o : List Int} (h : 0 < o.length) : accS k r o 0 ++ decS (o.getD 0 0) = accS k r o 1 := by
  rw [← jn_zero]
  match o, h with
  | x :: t, _ =>
    unfold accS
    apply ba_ext
    rw [ba_app, ba_app]
    show _ ++ Lib.itoa x = _ ++ jnL [x]
    rw [show jnL [x] = Lib.itoa x from Lib.join_one _ _]
set_option maxRecDepth 100000 in
theorem jnL_succ {o : List Int} {m : Nat} (h0 : 0 < m) (h : m < o.length) : jnL (o.take (m + 1)) = jnL (o.take m) ++ [44] ++ Lib.itoa (o.getD m 0) := by
  match o, m, h0 with
  | x :: t, k + 1, _ =>
    have hk : k < t.length := by rw [List.length_cons] at h; omega
    unfold jnL
    rw [List.take_succ_cons, List.take_succ_cons, List.map_cons, List.map_cons, Lib.join_cons, Lib.join_cons, List.map_take, List.map_take, Lib.joinTail_take_succ [44] (t.map Lib.itoa) k (Lib.itoa (t.getD k 0)) (by rw [List.getElem?_map, List.getElem?_eq_getElem hk, List.getD_eq_getElem?_getD, List.getElem?_eq_getElem hk]; rfl)]
    simp only [List.append_assoc, List.getD_cons_succ]
set_option maxRecDepth 100000 in
theorem jn_more (k r : Int) {o : List Int} {m : Nat} (h0 : 0 < m) (h : m < o.length) : accS k r o m ++ ⟨#[44]⟩ ++ decS (o.getD m 0) = accS k r o (m + 1) := by
  apply ba_ext
  unfold accS
  rw [ba_app, ba_app, ba_app, ba_app]
  show _ ++ jnL (o.take m) ++ [44] ++ Lib.itoa (o.getD m 0) = _ ++ jnL (o.take (m + 1))
  rw [jnL_succ h0 h]
  simp only [List.append_assoc]
set_option maxRecDepth 100000 in
theorem headS_size {k r : Int} (h : V64 r) : (headS k r).size ≤ 35 := by
  unfold headS
  have h1 := wordS_size k
  have h2 := decS_size (n := r) h.1 h.2
  rw [ByteArray.size_append, ByteArray.size_append, ByteArray.size_append]
  show (wordS k).size + 1 + (decS r).size + 1 ≤ 35
  omega
set_option maxRecDepth 100000 in
theorem accS_size {k r : Int} {o : List Int} {m : Nat} (h : V64 r) (hk : IvK o) (hl : o.length ≤ 100) : (accS k r o m).size ≤ 2235 := by
  unfold accS
  have h1 := headS_size (k := k) h
  have h2 := jnS_size (hk.take m)
  rw [List.length_take] at h2
  rw [ByteArray.size_append]
  omega
set_option maxHeartbeats 4000000 in
set_option maxRecDepth 100000 in
theorem refline20_any (k r : Int) (a : Option Addr) (len cap : Nat) (o : List Int) (w : World) (h : Ivs w a len cap o) (hk : IvK o) (hr : V64 r) (hl : len ≤ 100) :
    Calls Tryd.prog 6 #[.agg #[.int .i64 k, .slice a len cap, .int .i64 r]] w fun x w' => x = .returned (.string (lineS k r o)) ∧ Below w.heap.size w w' := by
  have hb0 : Below w.heap.size w (w.alloc (.cells #[.int .i64 k, .slice a len cap, .int .i64 r] 26)) := (Below.refl _ _).alloc (Nat.le_refl _) _
  have hr0 := heap_alloc_new w (.cells #[.int .i64 k, .slice a len cap, .int .i64 r] 26)
  obtain ⟨g1, HG⟩ : ∃ g1, Bx (g1 = w.heap.size) := ⟨_, ⟨rfl⟩⟩
  rw [← HG.out] at hr0
  have HB := Bx.mk hb0
  have HR := Bx.mk hr0
  have HI := Bx.mk (h.below hb0)
  have HOK := Bx.mk hk
  have HLEN : Bx (o.length = len) := ⟨h.len_eq⟩
  have HRB : Bx (-9223372036854775808 ≤ r ∧ r ≤ 9223372036854775807) := ⟨hr⟩
  obtain ⟨WS, HWS⟩ : ∃ WS, Bx (wordS k = WS) := ⟨_, ⟨rfl⟩⟩
  obtain ⟨RS, HRS⟩ : ∃ RS, Bx (decS r = RS) := ⟨_, ⟨rfl⟩⟩
  have z1 : WS.size ≤ 12 := by rw [← HWS.out]; exact wordS_size k
  have z2 : RS.size ≤ 21 := by rw [← HRS.out]; exact decS_size hr.1 hr.2
  have q1 : ¬ 9223372036854775807 < WS.size + 1 := by omega
  have q2 : ¬ 9223372036854775807 < WS.size + 1 + RS.size := by omega
  have q3 : ¬ 9223372036854775807 < WS.size + 1 + RS.size + 1 := by omega
  have HF : Bx (WS ++ ⟨#[32]⟩ ++ RS ++ ⟨#[32]⟩ = headS k r) := ⟨by unfold headS; rw [HWS.out, HRS.out]⟩
  have HZH := Bx.mk (headS_size (k := k) hr)
  have HZA : Bx (∀ m, (accS k r o m).size ≤ 2235) := ⟨fun m => accS_size hr hk (by rw [HLEN.out]; exact hl)⟩
  clear h hk hr hb0 hr0
  go_enter Tryd.func6, Tryd.ntmps6
  go_upto_region 1 with fail
  rw [← HG.out]
  generalize w.alloc (.cells #[.int .i64 k, .slice a len cap, .int .i64 r] 26) = wa at HB HR HI ⊢
  obtain ⟨Qq, HQE⟩ : ∃ Qq : World → Prop, Bx (Qq = fun W => W.heap[g1]? = some (.cells #[.int .i64 k, .slice a len cap, .int .i64 r] 26 (0, 0)) ∧ Ivs W a len cap o) := ⟨_, ⟨rfl⟩⟩
  have HQQ : Bx (∀ W, Qq W → W.cell? ⟨g1, 0, none⟩ = some (.int .i64 k) ∧ W.cell? ⟨g1, 1, none⟩ = some (.slice a len cap) ∧ W.cell? ⟨g1, 2, none⟩ = some (.int .i64 r) ∧ Ivs W a len cap o) := ⟨fun W h => by
    rw [HQE.out] at h
    exact ⟨cell_of_row _ g1 0 _ _ (0, 0) h.1, cell_of_row _ g1 1 _ _ (0, 0) h.1, cell_of_row _ g1 2 _ _ (0, 0) h.1, h.2⟩⟩
  have hk0 : HX Qq w wa := ⟨HB.out, by rw [HQE.out]; exact fun W W' h hb => ⟨(hb.block g1 (Array.getElem?_eq_some_iff.1 h.1).1).trans h.1, h.2.below hb⟩, by rw [HQE.out]; exact ⟨HR.out, HI.out⟩⟩
  have hk := hk0.step (W' := wa.drew) ⟨rfl, rfl, rfl, Nat.le_refl _, fun _ _ => rfl⟩
  clear hk0 HQE HR HI HB
  refine wp_region_held_drew (S := fun W => HX Qq w W) (by kernel_rfl) hk (fun _ => ?_)
  generalize wa.drew = wk at hk ⊢
  refine wpAnyH_take (i := 0) (oi := { dst := some 5, op := Op.fieldAddr 26 (Operand.tmp 1) 0, type := 0, pos := "ref.go:95", after := #[], guard := none }) (v := ?vrli11) rfl (by kernel_rfl) (by kernel_rfl) (by kernel_rfl) (fun _ _ _ h => h) (Or.inl ⟨by rfl, ?yrli11⟩) hk ?rrli11
  case yrli11 => (intro w hSw; (try dsimp only at hSw); go_simp; first | done | with_reducible rfl)
  simp only [Act.put, List.setIfInBounds_toArray, List.set_cons_zero, List.set_cons_succ]
  refine wpAnyH_take (i := 1) (oi := { dst := some 6, op := Op.load 3 (Operand.tmp 5), type := 3, pos := "ref.go:95", after := #[{ on := 0, ground := Ground.data }], guard := none }) (v := ?vrli12) rfl (by kernel_rfl) (by kernel_rfl) (by kernel_rfl) (fun _ _ _ h => h) (Or.inl ⟨by rfl, ?yrli12⟩) hk ?rrli12
  case yrli12 => (intro w hSw; have hcw := (HQQ.out _ hSw.q).1; clear hSw; go_simp; first | done | with_reducible rfl)
  simp only [Act.put, List.setIfInBounds_toArray, List.set_cons_zero, List.set_cons_succ]
  refine wpAnyH_take (i := 4) (oi := { dst := some 9, op := Op.fieldAddr 26 (Operand.tmp 1) 2, type := 0, pos := "ref.go:95", after := #[], guard := none }) (v := ?vrli13) rfl (by kernel_rfl) (by kernel_rfl) (by kernel_rfl) (fun _ _ _ h => h) (Or.inl ⟨by rfl, ?yrli13⟩) hk ?rrli13
  case yrli13 => (intro w hSw; (try dsimp only at hSw); go_simp; first | done | with_reducible rfl)
  simp only [Act.put, List.setIfInBounds_toArray, List.set_cons_zero, List.set_cons_succ]
  refine wpAnyH_take (i := 5) (oi := { dst := some 10, op := Op.load 3 (Operand.tmp 9), type := 3, pos := "ref.go:95", after := #[{ on := 4, ground := Ground.data }], guard := none }) (v := ?vrli14) rfl (by kernel_rfl) (by kernel_rfl) (by kernel_rfl) (fun _ _ _ h => h) (Or.inl ⟨by rfl, ?yrli14⟩) hk ?rrli14
  case yrli14 => (intro w hSw; have hcw := (HQQ.out _ hSw.q).2.2.1; clear hSw; go_simp; first | done | with_reducible rfl)
  simp only [Act.put, List.setIfInBounds_toArray, List.set_cons_zero, List.set_cons_succ]
  refine wpAnyH_ready (rs := [2]) (by decide +kernel) (by simp) ?_
  refine AllReadyH.cons (o := { dst := some 7, op := Op.call { callee := Callee.value (Operand.func 8), args := #[Operand.tmp 6], argTypes := #[3] }, type := 9, pos := "ref.go:95", after := #[{ on := 1, ground := Ground.data }], guard := none }) rfl (fun K hK => ?_) AllReadyH.nil
  go_simp
  refine (refword_any k _).mono ?_
  rintro x w1 ⟨rfl, hb1⟩
  rw [HWS.out]
  replace hk := hk.step hb1
  clear hb1
  refine hK.out _ _ hk (fun _ => ?_)
  clear hK K
  try simp only [Act.put, List.setIfInBounds_toArray, List.set_cons_zero, List.set_cons_succ]
  refine wpAnyH_take (i := 3) (oi := { dst := some 8, op := Op.binOp BinOp.add 9 (Operand.tmp 7) (Operand.const (Value.string { data := #[32] })) 9, type := 9, pos := "ref.go:95", after := #[{ on := 2, ground := Ground.data }], guard := none }) (v := ?vrli15) rfl (by kernel_rfl) (by kernel_rfl) (by kernel_rfl) (fun _ _ _ h => h) (Or.inl ⟨by rfl, ?yrli15⟩) hk ?rrli15
  case yrli15 => (intro w hSw; (try dsimp only at hSw); go_simp; first | done | with_reducible rfl)
  simp only [Act.put, List.setIfInBounds_toArray, List.set_cons_zero, List.set_cons_succ]
  refine wpAnyH_ready (rs := [6]) (by decide +kernel) (by simp) ?_
  refine AllReadyH.cons (o := { dst := some 11, op := Op.call { callee := Callee.value (Operand.func 12), args := #[Operand.tmp 10], argTypes := #[3] }, type := 9, pos := "ref.go:95", after := #[{ on := 5, ground := Ground.data }, { on := 2, ground := Ground.chain }], guard := none }) rfl (fun K hK => ?_) AllReadyH.nil
  go_simp
  refine (refdec_any r.natAbs r _ (Nat.le_refl _) HRB.out.1 HRB.out.2).mono ?_
  rintro x w2 ⟨rfl, hw2⟩
  have hw3 := hw2.symm
  subst hw3
  rw [HRS.out]
  refine hK.out _ _ hk (fun _ => ?_)
  clear hK K
  try simp only [Act.put, List.setIfInBounds_toArray, List.set_cons_zero, List.set_cons_succ]
  refine wpAnyH_take (i := 7) (oi := { dst := some 12, op := Op.binOp BinOp.add 9 (Operand.tmp 8) (Operand.tmp 11) 9, type := 9, pos := "ref.go:95", after := #[{ on := 3, ground := Ground.data }, { on := 6, ground := Ground.data }], guard := none }) (v := ?vrli16) rfl (by kernel_rfl) (by kernel_rfl) (by kernel_rfl) (fun _ _ _ h => h) (Or.inl ⟨by rfl, ?yrli16⟩) hk ?rrli16
  case yrli16 => (intro w hSw; (try dsimp only at hSw); go_simp; first | done | with_reducible rfl)
  simp only [Act.put, List.setIfInBounds_toArray, List.set_cons_zero, List.set_cons_succ]
  refine wpAnyH_take (i := 8) (oi := { dst := some 13, op := Op.binOp BinOp.add 9 (Operand.tmp 12) (Operand.const (Value.string { data := #[32] })) 9, type := 9, pos := "ref.go:95", after := #[{ on := 7, ground := Ground.data }], guard := none }) (v := ?vrli17) rfl (by kernel_rfl) (by kernel_rfl) (by kernel_rfl) (fun _ _ _ h => h) (Or.inl ⟨by rfl, ?yrli17⟩) hk ?rrli17
  case yrli17 => (intro w hSw; (try dsimp only at hSw); go_simp; first | done | with_reducible rfl)
  simp only [Act.put, List.setIfInBounds_toArray, List.set_cons_zero, List.set_cons_succ]
  refine wpAnyH_take (i := 9) (oi := { dst := some 3, op := Op.assign (Operand.tmp 13), type := 9, pos := "ref.go:95", after := #[{ on := 8, ground := Ground.data }, { on := 6, ground := Ground.chain }, { on := 0, ground := Ground.phase }, { on := 1, ground := Ground.phase }, { on := 2, ground := Ground.phase }, { on := 3, ground := Ground.phase }, { on := 4, ground := Ground.phase }, { on := 5, ground := Ground.phase }, { on := 6, ground := Ground.phase }, { on := 7, ground := Ground.phase }, { on := 8, ground := Ground.phase }], guard := none }) (v := ?vrli18) rfl (by kernel_rfl) (by kernel_rfl) (by kernel_rfl) (fun _ _ _ h => h) (Or.inl ⟨by rfl, ?yrli18⟩) hk ?rrli18
  case yrli18 => (intro w hSw; (try dsimp only at hSw); go_simp; first | done | with_reducible rfl)
  simp only [Act.put, List.setIfInBounds_toArray, List.set_cons_zero, List.set_cons_succ]
  refine wpAnyH_done (by decide +kernel) ?_ _
  have HBF := Bx.mk hk.low
  have c1 := (HQQ.out _ hk.q).2.1
  have HIV := Bx.mk (HQQ.out _ hk.q).2.2.2
  have HC1 := Bx.mk c1
  have HGL : Bx (g1 < w1.heap.size) := ⟨World.block_lt_of_cell? _ _ c1⟩
  rw [HF.out]
  clear hk HQQ q1 q2 q3 z1 z2 HF HRS HWS
  by_cases h0 : len = 0
  · have HL : Bx (lineS k r o = headS k r ++ ⟨#[45]⟩) := ⟨by unfold lineS; rw [List.eq_nil_of_length_eq_zero (HLEN.out.trans h0)]; rfl⟩
    have zh := HZH.out
    generalize headS k r = HD at HL zh
    have q1 : ¬ 9223372036854775807 < HD.size + 1 := by omega
    subst h0
    go_wp2_with fail
    go_ret
    exact ⟨by rw [HL.out]; rfl, HBF.out⟩
  · have hq : ((len : Int) == 0) = false := by simp; omega
    have HL : Bx (lineS k r o = accS k r o len) := ⟨by
      unfold lineS accS
      rw [lstS_some (fun e => by rw [e] at HLEN; exact h0 HLEN.out.symm), List.take_of_length_le (by rw [HLEN.out]; omega)]⟩
    rw [jn_zero k r o]
    clear HZH
    obtain ⟨S0, HS0⟩ : ∃ S0, Bx (accS k r o 0 = S0) := ⟨_, ⟨rfl⟩⟩
    rw [HS0.out]
    clear h0
    go_wp2_with fail
    go_loopw [3, 4] (fun s i wr => ∃ m : Nat, m ≤ len ∧ i = .int .i64 m ∧ s = .string (accS k r o m) ∧ Bx (Below w1.heap.size w1 wr)) (fun _ i _ => len - (intOf i).toNat)
    case atStart => exact ⟨0, Nat.zero_le _, rfl, by rw [HS0.out], ⟨Below.refl _ _⟩⟩
    case round =>
      obtain ⟨m, hm, rfl, rfl, HB⟩ := hrel
      have d1 := (HB.out.cell (p := ⟨g1, 1, none⟩) HGL.out).trans HC1.out
      have za := HZA.out m
      by_cases hlt : m < len
      · have hmI : (m : Int) < (len : Int) := by omega
        obtain ⟨b, off, rfl, _, x0⟩ := (HIV.out.below HB.out).iv m hlt 0
        have hx := HOK.out.get m (by rw [HLEN.out]; exact hlt) 0
        have zx := decS_size hx.1 hx.2
        by_cases h0 : m = 0
        · have HN : Bx (accS k r o m ++ decS (o.getD m 0) = accS k r o (m + 1)) := ⟨by rw [h0]; exact jn_one k r (by rw [HLEN.out]; omega)⟩
          have hmz : ¬ (0 : Int) < (m : Int) := by omega
          have hmd : decide (0 < m) = false := by simp; omega
          generalize accS k r o m = A at HN za ⊢
          clear h0
          go_wp2_with fail
          refine (refdec_any (o.getD m 0).natAbs (o.getD m 0) _ (Nat.le_refl _) hx.1 hx.2).mono ?_
          rintro x wz ⟨rfl, hwz⟩
          have hwy := hwz.symm
          subst hwy
          generalize decS (o.getD m 0) = X at HN zx
          have q2 : ¬ 9223372036854775807 < A.size + X.size := by omega
          clear x0 hx
          go_wp2_with fail
          go_roundw
          case rel => exact ⟨m + 1, by omega, by go_num, by rw [HN.out], HB⟩
          case measure => simp [intOf]; omega
        · have HN : Bx (accS k r o m ++ ⟨#[44]⟩ ++ decS (o.getD m 0) = accS k r o (m + 1)) := ⟨jn_more k r (by omega) (by rw [HLEN.out]; exact hlt)⟩
          have hmz : (0 : Int) < (m : Int) := by omega
          have hmd : decide (0 < m) = true := by simp; omega
          generalize accS k r o m = A at HN za ⊢
          have q1 : ¬ 9223372036854775807 < A.size + 1 := by omega
          clear h0
          go_wp2_with fail
          refine (refdec_any (o.getD m 0).natAbs (o.getD m 0) _ (Nat.le_refl _) hx.1 hx.2).mono ?_
          rintro x wz ⟨rfl, hwz⟩
          have hwy := hwz.symm
          subst hwy
          generalize decS (o.getD m 0) = X at HN zx
          have q2 : ¬ 9223372036854775807 < A.size + 1 + X.size := by omega
          clear x0 hx
          go_wp2_with fail
          go_roundw
          case rel => exact ⟨m + 1, by omega, by go_num, by rw [HN.out], HB⟩
          case measure => simp [intOf]; omega
      · have hmI : ¬ (m : Int) < (len : Int) := by omega
        have hmd : decide (m < len) = false := by simpa using hlt
        obtain rfl : m = len := by omega
        have HFB := Bx.mk (bstep HBF.out HB.out)
        generalize accS k r o m = A at HL ⊢
        go_wp2_with fail
        go_ret
        exact ⟨by rw [HL.out]; rfl, HFB.out⟩
end Go.Proofs.YtlodbkjjkhpbaaaDoor
