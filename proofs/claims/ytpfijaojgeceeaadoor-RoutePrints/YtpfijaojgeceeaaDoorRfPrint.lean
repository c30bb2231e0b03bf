/- The request that asks: the document's. -/
import Derived.Test.YtpfijaojgeceeaaDoorAuac
import Derived.Test.YtpfijaojgeceeaaDoorAuab
import Derived.Deep.CutBlock
namespace Go.Proofs.YtpfijaojgeceeaaDoor
open Go.RowKit
set_option linter.unusedVariables false

/-- the request as it is written: in the variable -/
def RqB (w : World) (g B : Nat) (x : WX) (w0 : World) : Prop := ∃ ba bc, w.heap[g]? = some (.cells #[.string x.m, .string x.t, .string x.k, .slice ba x.b.length bc] 24 (0, 0)) ∧ w.ownsRow B 5 1 (.slice ba x.b.length bc) x.b.length (bv x.b) ∧ Below B w0 w
set_option maxRecDepth 100000 in
theorem prtX_m (a : As) : (prtX a).m = mthK a.k := rfl
set_option maxRecDepth 100000 in
theorem prtX_k (a : As) : (prtX a).k = ⟨#[]⟩ := rfl
set_option maxRecDepth 100000 in
theorem prtX_t (a : As) : (prtX a).t = tgtP a := rfl
set_option maxRecDepth 100000 in
theorem prtX_b (a : As) : (prtX a).b = if a.k = 1 ∨ a.k = 3 then a.b else [] := rfl
set_option maxRecDepth 100000 in
theorem RqB.of {w w0 : World} {g B n : Nat} {x : WX} {m t : ByteArray} {l : List Int} {ba : Option Addr} {bc : Nat} (hx : x = ⟨m, t, ⟨#[]⟩, l⟩ ∧ l.length = n) (hr : w.heap[g]? = some (.cells #[.string m, .string t, .string ⟨#[]⟩, .slice ba n bc] 24 (0, 0))) (ho : w.ownsRow B 5 1 (.slice ba n bc) n (bv l)) (hb : Below B w0 w) : RqB w g B x w0 := by
  obtain ⟨rfl, rfl⟩ := hx
  exact ⟨ba, bc, hr, ho, hb⟩
set_option maxRecDepth 100000 in
theorem pk1 {a : As} (h : a.k = 1) : prtX a = ⟨mPut, ⟨#[47, 117, 112, 108, 111, 97, 100, 115, 47]⟩ ++ a.nm, ⟨#[]⟩, a.b⟩ := by unfold prtX tgtP mthK; rw [h]; rfl
set_option maxRecDepth 100000 in
theorem pk2 {a : As} (h : a.k = 2) : prtX a = ⟨mPost, ⟨#[47, 104, 105, 115, 116, 111, 114, 105, 101, 115, 47]⟩ ++ a.nm, ⟨#[]⟩, []⟩ := by unfold prtX tgtP mthK; rw [h]; rfl
set_option maxRecDepth 100000 in
theorem pk3 {a : As} (h : a.k = 3) : prtX a = ⟨mPut, ⟨#[47, 115, 112, 101, 99, 115, 47]⟩ ++ a.nm, ⟨#[]⟩, a.b⟩ := by unfold prtX tgtP mthK; rw [h]; rfl
set_option maxRecDepth 100000 in
theorem pk4 {a : As} (h : a.k = 4) : prtX a = ⟨mPost, ⟨#[47, 106, 111, 98, 115, 47]⟩ ++ a.nm ++ ⟨#[47]⟩ ++ a.sp, ⟨#[]⟩, []⟩ := by unfold prtX tgtP mthK; rw [h]; rfl
set_option maxRecDepth 100000 in
theorem pk5 {a : As} (h : a.k = 5) : prtX a = ⟨mGet, ⟨#[47, 106, 111, 98, 115, 47]⟩ ++ decS a.A, ⟨#[]⟩, []⟩ := by unfold prtX tgtP mthK; rw [h]; rfl
set_option maxRecDepth 100000 in
theorem pk6 {a : As} (h : a.k = 6) : prtX a = ⟨mGet, ⟨#[47, 104, 101, 97, 100, 115, 47]⟩ ++ decS a.A, ⟨#[]⟩, []⟩ := by unfold prtX tgtP mthK; rw [h]; rfl
set_option maxRecDepth 100000 in
theorem pk7 {a : As} (h : a.k = 7) : prtX a = ⟨mGet, ⟨#[47, 101, 110, 116, 114, 105, 101, 115, 47]⟩ ++ decS a.A ++ ⟨#[47]⟩ ++ decS a.B, ⟨#[]⟩, []⟩ := by unfold prtX tgtP mthK; rw [h]; rfl
set_option maxRecDepth 100000 in
theorem pk8 {a : As} (h : a.k = 8) : prtX a = ⟨mGet, ⟨#[47, 103, 114, 111, 119, 116, 104, 47]⟩ ++ decS a.A ++ ⟨#[47]⟩ ++ decS a.B, ⟨#[]⟩, []⟩ := by unfold prtX tgtP mthK; rw [h]; rfl
set_option maxRecDepth 100000 in
theorem pk9 {a : As} (h : a.k = 9) : prtX a = ⟨mGet, ⟨#[47, 117, 115, 97, 103, 101]⟩, ⟨#[]⟩, []⟩ := by unfold prtX tgtP mthK; rw [h]; rfl
set_option maxRecDepth 100000 in
theorem pk10 {a : As} (h : a.k = 10) : prtX a = ⟨mGet, ⟨#[47, 104, 101, 97, 100]⟩, ⟨#[]⟩, []⟩ := by unfold prtX tgtP mthK; rw [h]; rfl
set_option maxRecDepth 100000 in
theorem pk0 {a : As} (h : a.k < 1 ∨ 10 < a.k) : prtX a = ⟨mGet, ⟨#[]⟩, ⟨#[]⟩, []⟩ := by
  have ht := (wrt_other h).2
  have hm : mthK a.k = mGet := by unfold mthK; rw [if_neg (by omega), if_neg (by omega)]
  have hb : (prtX a).b = [] := by rw [prtX_b, if_neg (by omega)]
  exact wx_ext hm ht rfl hb
set_option maxRecDepth 100000 in
set_option maxHeartbeats 8000000 in
set_option maxRecDepth 100000 in
theorem rprint_any (a : As) (ab : Option Addr) (n c : Nat) (w : World) (hb : Bts w ab n c a.b) (hA : V64 a.A) (hB : V64 a.B) (hnm : a.nm.size ≤ 1000) (hsp : a.sp.size ≤ 1000) (hn : n ≤ 1000000) :
    Calls Tryd.prog 14 #[.agg (askV a ab n c)] w (PrnP (prtV a) w) := by
  obtain ⟨hROW, hRZ, hsz⟩ := two_new18 w (.cells (askV a ab n c) 27) (.cells reqZ 24)
  have hB1 : Below w.heap.size w ((w.alloc (.cells (askV a ab n c) 27)).alloc (.cells reqZ 24)) := ((Below.refl _ _).alloc (Nat.le_refl _) _).alloc (by simp) _
  have hW1 : w.heap.size + 1 < ((w.alloc (.cells (askV a ab n c) 27)).alloc (.cells reqZ 24)).heap.size := (Array.getElem?_eq_some_iff.1 hRZ).1
  have HALL : Bx (∀ W, Below ((w.alloc (.cells (askV a ab n c) 27)).alloc (.cells reqZ 24)).heap.size ((w.alloc (.cells (askV a ab n c) 27)).alloc (.cells reqZ 24)) W → W.heap[w.heap.size]? = some (.cells (askV a ab n c) 27 (0, 0)) ∧ W.heap[w.heap.size + 1]? = some (.cells reqZ 24 (0, 0)) ∧ Below w.heap.size w W ∧ Bts W ab n c a.b) := ⟨fun W h => by
    have h2 := bstep hB1 h
    exact ⟨(h.block _ (by omega)).trans hROW, (h.block _ hW1).trans hRZ, h2, hb.below h2⟩⟩
  have HW1 := Bx.mk hW1
  have HXN := Bx.mk hn
  obtain ⟨vA, HVA⟩ : ∃ v, Bx (a.A = v) := ⟨_, ⟨rfl⟩⟩
  obtain ⟨vB, HVB⟩ : ∃ v, Bx (a.B = v) := ⟨_, ⟨rfl⟩⟩
  obtain ⟨dA, HDA⟩ : ∃ d, Bx (decS a.A = d) := ⟨_, ⟨rfl⟩⟩
  obtain ⟨dB, HDB⟩ : ∃ d, Bx (decS a.B = d) := ⟨_, ⟨rfl⟩⟩
  have HD1 : Bx (∀ W, Calls Tryd.prog 25 #[.int .i64 vA] W fun e w' => e = .returned (.string dA) ∧ w' = W) := ⟨fun W => by rw [← HVA.out, ← HDA.out]; exact refdec_any _ a.A W (Nat.le_refl _) hA.1 hA.2⟩
  have HD2 : Bx (∀ W, Calls Tryd.prog 25 #[.int .i64 vB] W fun e w' => e = .returned (.string dB) ∧ w' = W) := ⟨fun W => by rw [← HVB.out, ← HDB.out]; exact refdec_any _ a.B W (Nat.le_refl _) hB.1 hB.2⟩
  have hsA : dA.size ≤ 21 := by rw [← HDA.out]; exact decS_size hA.1 hA.2
  have hsB : dB.size ≤ 21 := by rw [← HDB.out]; exact decS_size hB.1 hB.2
  clear hROW hRZ hsz hB1 hW1 hb hn hA hB
  generalize hw1 : (w.alloc (.cells (askV a ab n c) 27)).alloc (.cells reqZ 24) = W1 at *
  unfold reqZ askV at hw1
  show Calls Tryd.prog 14 #[.agg #[.int .i64 a.k, .string a.nm, .string a.sp, .slice ab n c, .int .i64 a.A, .int .i64 a.B]] w (PrnP (prtV a) w)
  go_enter Tryd.func14, Tryd.ntmps14
  go_upto_region 1 with fail
  clear hw1
  have hN := heap_alloc_new W1 (.cells #[.string ⟨#[71, 69, 84]⟩, .string ⟨#[]⟩, .string ⟨#[]⟩, .slice none 0 0] 24)
  have hNB : Below W1.heap.size W1 (W1.alloc (.cells #[.string ⟨#[71, 69, 84]⟩, .string ⟨#[]⟩, .string ⟨#[]⟩, .slice none 0 0] 24)) := (Below.refl _ _).alloc (Nat.le_refl _) _
  go_upto_region 2 with fail
  generalize hw2 : W1.alloc (.cells #[.string ⟨#[71, 69, 84]⟩, .string ⟨#[]⟩, .string ⟨#[]⟩, .slice none 0 0] 24) = w2 at *
  clear hw2
  obtain ⟨hA2, _, _, hX2⟩ := HALL.out w2 hNB
  have c4 : w2.cell? ⟨w.heap.size, 4, none⟩ = some (.int .i64 vA) := by rw [cell_of_row w2 _ 4 _ _ (0, 0) hA2, ← HVA.out]; rfl
  have c5 : w2.cell? ⟨w.heap.size, 5, none⟩ = some (.int .i64 vB) := by rw [cell_of_row w2 _ 5 _ _ (0, 0) hA2, ← HVB.out]; rfl
  go_quiet (first
    | (go_at_call_of 25 vA; exact Calls.quiet_of_same (HD1.out _))
    | (go_at_call_of 25 vB; exact Calls.quiet_of_same (HD2.out _)))
  generalize hw3 : w2.drewN nq = w3
  have hN3 : w3.heap[W1.heap.size]? = some (.cells #[.string ⟨#[71, 69, 84]⟩, .string ⟨#[]⟩, .string ⟨#[]⟩, .slice none 0 0] 24 (0, 0)) := by rw [← hw3]; exact hN
  have hB3 : Below W1.heap.size W1 w3 := by rw [← hw3]; exact below_drewN hNB nq
  clear hw3 hN hNB hA2 hX2 c4 c5 HD1 HD2
  obtain ⟨hA3, _, _, hX3⟩ := HALL.out w3 hB3
  obtain ⟨kk, HKK⟩ : ∃ v, Bx (a.k = v) := ⟨_, ⟨rfl⟩⟩
  obtain ⟨an, HAN⟩ : ∃ v, Bx (a.nm = v) := ⟨_, ⟨rfl⟩⟩
  obtain ⟨asp, HAS⟩ : ∃ v, Bx (a.sp = v) := ⟨_, ⟨rfl⟩⟩
  have d0 : w3.cell? ⟨w.heap.size, 0, none⟩ = some (.int .i64 kk) := by rw [cell_of_row w3 _ 0 _ _ (0, 0) hA3, ← HKK.out]; rfl
  have d1 : w3.cell? ⟨w.heap.size, 1, none⟩ = some (.string an) := by rw [cell_of_row w3 _ 1 _ _ (0, 0) hA3, ← HAN.out]; rfl
  have d2 : w3.cell? ⟨w.heap.size, 2, none⟩ = some (.string asp) := by rw [cell_of_row w3 _ 2 _ _ (0, 0) hA3, ← HAS.out]; rfl
  have d3 : w3.cell? ⟨w.heap.size, 3, none⟩ = some (.slice ab n c) := by rw [cell_of_row w3 _ 3 _ _ (0, 0) hA3]; rfl
  have hn1 : an.size ≤ 1000 := by rw [← HAN.out]; exact hnm
  have hn2 : asp.size ≤ 1000 := by rw [← HAS.out]; exact hsp
  have HR3 := Bx.mk hN3
  have HB3 := Bx.mk hB3
  have HNG : Bx (w.heap.size ≠ W1.heap.size) := ⟨by have := HW1.out; omega⟩
  clear hN3 hB3 hA3 hX3 hnm hsp
  go_upto_block 0 with fail
  go_cut [] from 18 to 83 (fun wx => RqB wx W1.heap.size W1.heap.size (prtX a) W1)
  case first =>
    obtain rfl | rfl | rfl | rfl | rfl | rfl | rfl | rfl | rfl | rfl | h0 : kk = 1 ∨ kk = 2 ∨ kk = 3 ∨ kk = 4 ∨ kk = 5 ∨ kk = 6 ∨ kk = 7 ∨ kk = 8 ∨ kk = 9 ∨ kk = 10 ∨ (kk < 1 ∨ 10 < kk) := by omega
    · have HPX : Bx (prtX a = ⟨⟨#[80, 85, 84]⟩, ⟨#[47, 117, 112, 108, 111, 97, 100, 115, 47]⟩ ++ an, ⟨#[]⟩, a.b⟩ ∧ a.b.length = n) := ⟨⟨by rw [pk1 HKK.out, HAN.out]; rfl, (HALL.out _ HB3.out).2.2.2.len_eq⟩⟩
      generalize hlb : a.b = lb at *
      have z1 : ¬ 9223372036854775807 < 9 + an.size := by omega
      go_upto_region 5 with fail
      have hk : w3.drew.cell? ⟨w.heap.size, 1, none⟩ = some (.string an) ∧ w3.drew.cell? ⟨w.heap.size, 3, none⟩ = some (.slice ab n c) := ⟨d1, d3⟩
      have HBK : Bx (Below W1.heap.size W1 w3.drew) := ⟨HB3.out.drew⟩
      have HRK : Bx (w3.drew.heap[W1.heap.size]? = some (.cells #[.string ⟨#[71, 69, 84]⟩, .string ⟨#[]⟩, .string ⟨#[]⟩, .slice none 0 0] 24 (0, 0))) := ⟨HR3.out⟩
      clear d0 d1 d2 d3 HR3 HB3
      refine wp_region_held_drew (S := fun W => W.cell? ⟨w.heap.size, 1, none⟩ = some (.string an) ∧ W.cell? ⟨w.heap.size, 3, none⟩ = some (.slice ab n c)) (by kernel_rfl) hk (fun _ => ?_)
      generalize w3.drew = wk at hk HBK HRK ⊢
      refine wpAnyH_take (i := 0) (oi := { dst := some 20, op := Op.fieldAddr 27 (Operand.tmp 1) 1, type := 0, pos := "ref.go:103", after := #[], guard := none }) (v := ?vrpr51) rfl (by kernel_rfl) (by kernel_rfl) (by kernel_rfl) (fun _ _ _ h => h) (Or.inl ⟨by rfl, ?yrpr51⟩) hk ?rrpr51
      case yrpr51 => (intro w hSw; (try dsimp only at hSw); go_simp; first | done | with_reducible rfl)
      simp only [Act.put, List.setIfInBounds_toArray, List.set_cons_zero, List.set_cons_succ]
      refine wpAnyH_take (i := 1) (oi := { dst := some 21, op := Op.load 9 (Operand.tmp 20), type := 9, pos := "ref.go:103", after := #[{ on := 0, ground := Ground.data }], guard := none }) (v := ?vrpr52) rfl (by kernel_rfl) (by kernel_rfl) (by kernel_rfl) (fun _ _ _ h => h) (Or.inl ⟨by rfl, ?yrpr52⟩) hk ?rrpr52
      case yrpr52 => (intro w hSw; have hcw := hSw.1; clear hSw; go_simp; first | done | with_reducible rfl)
      simp only [Act.put, List.setIfInBounds_toArray, List.set_cons_zero, List.set_cons_succ]
      refine wpAnyH_take (i := 2) (oi := { dst := some 22, op := Op.binOp BinOp.add 9 (Operand.const (Value.string { data := #[47, 117, 112, 108, 111, 97, 100, 115, 47] })) (Operand.tmp 21) 9, type := 9, pos := "ref.go:103", after := #[{ on := 1, ground := Ground.data }], guard := none }) (v := ?vrpr53) rfl (by kernel_rfl) (by kernel_rfl) (by kernel_rfl) (fun _ _ _ h => h) (Or.inl ⟨by rfl, ?yrpr53⟩) hk ?rrpr53
      case yrpr53 => (intro w hSw; (try dsimp only at hSw); go_simp; first | done | with_reducible rfl)
      simp only [Act.put, List.setIfInBounds_toArray, List.set_cons_zero, List.set_cons_succ]
      refine wpAnyH_take (i := 3) (oi := { dst := some 23, op := Op.fieldAddr 27 (Operand.tmp 1) 3, type := 0, pos := "ref.go:103", after := #[], guard := none }) (v := ?vrpr54) rfl (by kernel_rfl) (by kernel_rfl) (by kernel_rfl) (fun _ _ _ h => h) (Or.inl ⟨by rfl, ?yrpr54⟩) hk ?rrpr54
      case yrpr54 => (intro w hSw; (try dsimp only at hSw); go_simp; first | done | with_reducible rfl)
      simp only [Act.put, List.setIfInBounds_toArray, List.set_cons_zero, List.set_cons_succ]
      refine wpAnyH_take (i := 4) (oi := { dst := some 24, op := Op.load 22 (Operand.tmp 23), type := 22, pos := "ref.go:103", after := #[{ on := 3, ground := Ground.data }], guard := none }) (v := ?vrpr55) rfl (by kernel_rfl) (by kernel_rfl) (by kernel_rfl) (fun _ _ _ h => h) (Or.inl ⟨by rfl, ?yrpr55⟩) hk ?rrpr55
      case yrpr55 => (intro w hSw; have hcw := hSw.2; clear hSw; go_simp; first | done | with_reducible rfl)
      simp only [Act.put, List.setIfInBounds_toArray, List.set_cons_zero, List.set_cons_succ]
      refine wpAnyH_ready (rs := [5]) (by decide +kernel) (by simp) ?_
      refine AllReadyH.cons (o := { dst := some 25, op := Op.call { callee := Callee.value (Operand.func 16), args := #[Operand.tmp 24], argTypes := #[22] }, type := 22, pos := "ref.go:103", after := #[{ on := 4, ground := Ground.data }], guard := none }) rfl (fun K hK => ?_) AllReadyH.nil
      go_simp
      have HXK := Bx.mk (HALL.out _ HBK.out).2.2.2
      refine (copy_any ab n c lb _ HXK.out (by have := HXN.out; omega)).mono ?_
      rintro e1 wz ⟨v6, rfl, ho6, hb6⟩
      obtain ⟨vb, vc, hv6, _⟩ := Bts.of_owns ho6 HXK.out.byt
      subst hv6
      have HGK : Bx (W1.heap.size < wk.heap.size) := ⟨(Array.getElem?_eq_some_iff.1 HRK.out).1⟩
      have hkz : wz.cell? ⟨w.heap.size, 1, none⟩ = some (.string an) ∧ wz.cell? ⟨w.heap.size, 3, none⟩ = some (.slice ab n c) := ⟨(hb6.cell (block_lt_of_cell hk.1)).trans hk.1, (hb6.cell (block_lt_of_cell hk.2)).trans hk.2⟩
      have HRZ : Bx (wz.heap[W1.heap.size]? = some (.cells #[.string ⟨#[71, 69, 84]⟩, .string ⟨#[]⟩, .string ⟨#[]⟩, .slice none 0 0] 24 (0, 0))) := ⟨(hb6.block _ HGK.out).trans HRK.out⟩
      have HBZ : Bx (Below W1.heap.size W1 wz) := ⟨bstep HBK.out hb6⟩
      have HOZ := Bx.mk ho6
      replace hk := hkz
      clear hkz ho6 hb6 HRK HBK HXK
      refine hK.out _ _ hk (fun _ => ?_)
      clear hK K
      try simp only [Act.put, List.setIfInBounds_toArray, List.set_cons_zero, List.set_cons_succ]
      refine wpAnyH_take (i := 6) (oi := { dst := some 26, op := Op.build 24 #[(0, Operand.const (Value.string { data := #[80, 85, 84] })), (1, Operand.tmp 22), (3, Operand.tmp 25)], type := 24, pos := "ref.go:103", after := #[{ on := 2, ground := Ground.data }, { on := 5, ground := Ground.data }], guard := none }) (v := ?vrpr56) rfl (by kernel_rfl) (by kernel_rfl) (by kernel_rfl) (fun _ _ _ h => h) (Or.inl ⟨by rfl, ?yrpr56⟩) hk ?rrpr56
      case yrpr56 => (intro w hSw; (try dsimp only at hSw); go_simp; first | done | with_reducible rfl)
      simp only [Act.put, List.setIfInBounds_toArray, List.set_cons_zero, List.set_cons_succ]
      refine wpAnyH_ready (rs := [7]) (by decide +kernel) (by simp) ?_
      refine AllReadyH.cons (o := { dst := none, op := Op.store 24 (Operand.tmp 4) (Operand.tmp 26), type := 0, pos := "ref.go:103", after := #[{ on := 6, ground := Ground.data }, { on := 5, ground := Ground.chain }, { on := 0, ground := Ground.phase }, { on := 1, ground := Ground.phase }, { on := 2, ground := Ground.phase }, { on := 3, ground := Ground.phase }, { on := 4, ground := Ground.phase }, { on := 5, ground := Ground.phase }, { on := 6, ground := Ground.phase }], guard := none }) rfl (fun K hK => ?_) AllReadyH.nil
      rw [if_pos (by rfl)]
      have HTRK : Bx (wz.there W1.heap.size 0 4) := ⟨there_row HRZ.out⟩
      refine wp_store_mid 24 (.tmp 4) (.tmp 26) rfl W1.heap.size 0 #[.string ⟨#[80, 85, 84]⟩, .string ((⟨#[47, 117, 112, 108, 111, 97, 100, 115, 47]⟩ : ByteArray) ++ an), .string ⟨#[]⟩, .slice vb n vc] rfl rfl ?htrpr57 req_info (req_one _ _ _ _ rfl) ?_
      case htrpr57 => exact HTRK.out
      have HRF : Bx ((wz.setCells W1.heap.size 0 #[.string ⟨#[80, 85, 84]⟩, .string ((⟨#[47, 117, 112, 108, 111, 97, 100, 115, 47]⟩ : ByteArray) ++ an), .string ⟨#[]⟩, .slice vb n vc].toList).heap[W1.heap.size]? = some (.cells #[.string ⟨#[80, 85, 84]⟩, .string ((⟨#[47, 117, 112, 108, 111, 97, 100, 115, 47]⟩ : ByteArray) ++ an), .string ⟨#[]⟩, .slice vb n vc] 24 (0, 0))) := ⟨heap_stored HRZ.out rfl⟩
      have HBF : Bx (Below W1.heap.size W1 (wz.setCells W1.heap.size 0 #[.string ⟨#[80, 85, 84]⟩, .string ((⟨#[47, 117, 112, 108, 111, 97, 100, 115, 47]⟩ : ByteArray) ++ an), .string ⟨#[]⟩, .slice vb n vc].toList)) := ⟨below_setCells HBZ.out _ (Nat.le_refl _) _ 0⟩
      have HOF : Bx ((wz.setCells W1.heap.size 0 #[.string ⟨#[80, 85, 84]⟩, .string ((⟨#[47, 117, 112, 108, 111, 97, 100, 115, 47]⟩ : ByteArray) ++ an), .string ⟨#[]⟩, .slice vb n vc].toList).ownsRow W1.heap.size 5 1 (.slice vb n vc) n (bv lb)) := ⟨own_lowR (owns_setCells HOZ.out (fun q hq => by have h1 := (HOZ.out.lt q hq).1; have h2 := HGK.out; omega)) (Nat.le_of_lt HGK.out)⟩
      have HKF : Bx ((wz.setCells W1.heap.size 0 #[.string ⟨#[80, 85, 84]⟩, .string ((⟨#[47, 117, 112, 108, 111, 97, 100, 115, 47]⟩ : ByteArray) ++ an), .string ⟨#[]⟩, .slice vb n vc].toList).cell? ⟨w.heap.size, 1, none⟩ = some (.string an) ∧ (wz.setCells W1.heap.size 0 #[.string ⟨#[80, 85, 84]⟩, .string ((⟨#[47, 117, 112, 108, 111, 97, 100, 115, 47]⟩ : ByteArray) ++ an), .string ⟨#[]⟩, .slice vb n vc].toList).cell? ⟨w.heap.size, 3, none⟩ = some (.slice ab n c)) := ⟨(World.cell?_of_block (setCells_other HNG.out _ _)).trans hk.1, (World.cell?_of_block (setCells_other HNG.out _ _)).trans hk.2⟩
      replace hk := HKF.out
      clear HKF HRZ HBZ HOZ
      generalize wz.setCells W1.heap.size 0 #[.string ⟨#[80, 85, 84]⟩, .string ((⟨#[47, 117, 112, 108, 111, 97, 100, 115, 47]⟩ : ByteArray) ++ an), .string ⟨#[]⟩, .slice vb n vc].toList = wk at hk HRF HBF HOF ⊢
      simp only [Act.put]
      refine hK.out _ _ hk (fun _ => ?_)
      clear hK K
      try simp only [Act.put, List.setIfInBounds_toArray, List.set_cons_zero, List.set_cons_succ]
      refine wpAnyH_done (by decide +kernel) ?_ _
      go_wp2_with fail
      go_meet
      exact RqB.of HPX.out HRF.out HOF.out HBF.out
    · have z1 : ¬ 9223372036854775807 < 11 + an.size := by omega
      have HPX : Bx (prtX a = ⟨mPost, ⟨#[47, 104, 105, 115, 116, 111, 114, 105, 101, 115, 47]⟩ ++ an, ⟨#[]⟩, []⟩ ∧ ([] : List Int).length = 0) := ⟨⟨by rw [pk2 HKK.out, HAN.out], rfl⟩⟩
      have HTR : Bx (w3.there W1.heap.size 0 4) := ⟨there_row HR3.out⟩
      have HRF : Bx ((w3.setCells W1.heap.size 0 #[.string ⟨#[80, 79, 83, 84]⟩, .string (⟨#[47, 104, 105, 115, 116, 111, 114, 105, 101, 115, 47]⟩ ++ an), .string ⟨#[]⟩, .slice none 0 0].toList).heap[W1.heap.size]? = some (.cells #[.string ⟨#[80, 79, 83, 84]⟩, .string (⟨#[47, 104, 105, 115, 116, 111, 114, 105, 101, 115, 47]⟩ ++ an), .string ⟨#[]⟩, .slice none 0 0] 24 (0, 0))) := ⟨heap_stored HR3.out rfl⟩
      have HBF : Bx (Below W1.heap.size W1 (w3.setCells W1.heap.size 0 #[.string ⟨#[80, 79, 83, 84]⟩, .string (⟨#[47, 104, 105, 115, 116, 111, 114, 105, 101, 115, 47]⟩ ++ an), .string ⟨#[]⟩, .slice none 0 0].toList)) := ⟨below_setCells HB3.out _ (Nat.le_refl _) _ 0⟩
      go_wp2_with (refine wpList_store_mid rfl 24 (.tmp 4) (.tmp 32) rfl W1.heap.size 0 #[.string ⟨#[80, 79, 83, 84]⟩, .string (⟨#[47, 104, 105, 115, 116, 111, 114, 105, 101, 115, 47]⟩ ++ an), .string ⟨#[]⟩, .slice none 0 0] rfl rfl HTR.out req_info (req_one _ _ _ _ rfl) ?_)
      go_wp2_with fail
      go_meet
      exact RqB.of HPX.out HRF.out (World.ownsRow_nil _ _ _ _) HBF.out
    · have HPX : Bx (prtX a = ⟨⟨#[80, 85, 84]⟩, ⟨#[47, 115, 112, 101, 99, 115, 47]⟩ ++ an, ⟨#[]⟩, a.b⟩ ∧ a.b.length = n) := ⟨⟨by rw [pk3 HKK.out, HAN.out]; rfl, (HALL.out _ HB3.out).2.2.2.len_eq⟩⟩
      generalize hlb : a.b = lb at *
      have z1 : ¬ 9223372036854775807 < 7 + an.size := by omega
      go_upto_region 9 with fail
      have hk : w3.drew.cell? ⟨w.heap.size, 1, none⟩ = some (.string an) ∧ w3.drew.cell? ⟨w.heap.size, 3, none⟩ = some (.slice ab n c) := ⟨d1, d3⟩
      have HBK : Bx (Below W1.heap.size W1 w3.drew) := ⟨HB3.out.drew⟩
      have HRK : Bx (w3.drew.heap[W1.heap.size]? = some (.cells #[.string ⟨#[71, 69, 84]⟩, .string ⟨#[]⟩, .string ⟨#[]⟩, .slice none 0 0] 24 (0, 0))) := ⟨HR3.out⟩
      clear d0 d1 d2 d3 HR3 HB3
      refine wp_region_held_drew (S := fun W => W.cell? ⟨w.heap.size, 1, none⟩ = some (.string an) ∧ W.cell? ⟨w.heap.size, 3, none⟩ = some (.slice ab n c)) (by kernel_rfl) hk (fun _ => ?_)
      generalize w3.drew = wk at hk HBK HRK ⊢
      refine wpAnyH_take (i := 0) (oi := { dst := some 35, op := Op.fieldAddr 27 (Operand.tmp 1) 1, type := 0, pos := "ref.go:107", after := #[], guard := none }) (v := ?vrpr91) rfl (by kernel_rfl) (by kernel_rfl) (by kernel_rfl) (fun _ _ _ h => h) (Or.inl ⟨by rfl, ?yrpr91⟩) hk ?rrpr91
      case yrpr91 => (intro w hSw; (try dsimp only at hSw); go_simp; first | done | with_reducible rfl)
      simp only [Act.put, List.setIfInBounds_toArray, List.set_cons_zero, List.set_cons_succ]
      refine wpAnyH_take (i := 1) (oi := { dst := some 36, op := Op.load 9 (Operand.tmp 35), type := 9, pos := "ref.go:107", after := #[{ on := 0, ground := Ground.data }], guard := none }) (v := ?vrpr92) rfl (by kernel_rfl) (by kernel_rfl) (by kernel_rfl) (fun _ _ _ h => h) (Or.inl ⟨by rfl, ?yrpr92⟩) hk ?rrpr92
      case yrpr92 => (intro w hSw; have hcw := hSw.1; clear hSw; go_simp; first | done | with_reducible rfl)
      simp only [Act.put, List.setIfInBounds_toArray, List.set_cons_zero, List.set_cons_succ]
      refine wpAnyH_take (i := 2) (oi := { dst := some 37, op := Op.binOp BinOp.add 9 (Operand.const (Value.string { data := #[47, 115, 112, 101, 99, 115, 47] })) (Operand.tmp 36) 9, type := 9, pos := "ref.go:107", after := #[{ on := 1, ground := Ground.data }], guard := none }) (v := ?vrpr93) rfl (by kernel_rfl) (by kernel_rfl) (by kernel_rfl) (fun _ _ _ h => h) (Or.inl ⟨by rfl, ?yrpr93⟩) hk ?rrpr93
      case yrpr93 => (intro w hSw; (try dsimp only at hSw); go_simp; first | done | with_reducible rfl)
      simp only [Act.put, List.setIfInBounds_toArray, List.set_cons_zero, List.set_cons_succ]
      refine wpAnyH_take (i := 3) (oi := { dst := some 38, op := Op.fieldAddr 27 (Operand.tmp 1) 3, type := 0, pos := "ref.go:107", after := #[], guard := none }) (v := ?vrpr94) rfl (by kernel_rfl) (by kernel_rfl) (by kernel_rfl) (fun _ _ _ h => h) (Or.inl ⟨by rfl, ?yrpr94⟩) hk ?rrpr94
      case yrpr94 => (intro w hSw; (try dsimp only at hSw); go_simp; first | done | with_reducible rfl)
      simp only [Act.put, List.setIfInBounds_toArray, List.set_cons_zero, List.set_cons_succ]
      refine wpAnyH_take (i := 4) (oi := { dst := some 39, op := Op.load 22 (Operand.tmp 38), type := 22, pos := "ref.go:107", after := #[{ on := 3, ground := Ground.data }], guard := none }) (v := ?vrpr95) rfl (by kernel_rfl) (by kernel_rfl) (by kernel_rfl) (fun _ _ _ h => h) (Or.inl ⟨by rfl, ?yrpr95⟩) hk ?rrpr95
      case yrpr95 => (intro w hSw; have hcw := hSw.2; clear hSw; go_simp; first | done | with_reducible rfl)
      simp only [Act.put, List.setIfInBounds_toArray, List.set_cons_zero, List.set_cons_succ]
      refine wpAnyH_ready (rs := [5]) (by decide +kernel) (by simp) ?_
      refine AllReadyH.cons (o := { dst := some 40, op := Op.call { callee := Callee.value (Operand.func 16), args := #[Operand.tmp 39], argTypes := #[22] }, type := 22, pos := "ref.go:107", after := #[{ on := 4, ground := Ground.data }], guard := none }) rfl (fun K hK => ?_) AllReadyH.nil
      go_simp
      have HXK := Bx.mk (HALL.out _ HBK.out).2.2.2
      refine (copy_any ab n c lb _ HXK.out (by have := HXN.out; omega)).mono ?_
      rintro e1 wz ⟨v6, rfl, ho6, hb6⟩
      obtain ⟨vb, vc, hv6, _⟩ := Bts.of_owns ho6 HXK.out.byt
      subst hv6
      have HGK : Bx (W1.heap.size < wk.heap.size) := ⟨(Array.getElem?_eq_some_iff.1 HRK.out).1⟩
      have hkz : wz.cell? ⟨w.heap.size, 1, none⟩ = some (.string an) ∧ wz.cell? ⟨w.heap.size, 3, none⟩ = some (.slice ab n c) := ⟨(hb6.cell (block_lt_of_cell hk.1)).trans hk.1, (hb6.cell (block_lt_of_cell hk.2)).trans hk.2⟩
      have HRZ : Bx (wz.heap[W1.heap.size]? = some (.cells #[.string ⟨#[71, 69, 84]⟩, .string ⟨#[]⟩, .string ⟨#[]⟩, .slice none 0 0] 24 (0, 0))) := ⟨(hb6.block _ HGK.out).trans HRK.out⟩
      have HBZ : Bx (Below W1.heap.size W1 wz) := ⟨bstep HBK.out hb6⟩
      have HOZ := Bx.mk ho6
      replace hk := hkz
      clear hkz ho6 hb6 HRK HBK HXK
      refine hK.out _ _ hk (fun _ => ?_)
      clear hK K
      try simp only [Act.put, List.setIfInBounds_toArray, List.set_cons_zero, List.set_cons_succ]
      refine wpAnyH_take (i := 6) (oi := { dst := some 41, op := Op.build 24 #[(0, Operand.const (Value.string { data := #[80, 85, 84] })), (1, Operand.tmp 37), (3, Operand.tmp 40)], type := 24, pos := "ref.go:107", after := #[{ on := 2, ground := Ground.data }, { on := 5, ground := Ground.data }], guard := none }) (v := ?vrpr96) rfl (by kernel_rfl) (by kernel_rfl) (by kernel_rfl) (fun _ _ _ h => h) (Or.inl ⟨by rfl, ?yrpr96⟩) hk ?rrpr96
      case yrpr96 => (intro w hSw; (try dsimp only at hSw); go_simp; first | done | with_reducible rfl)
      simp only [Act.put, List.setIfInBounds_toArray, List.set_cons_zero, List.set_cons_succ]
      refine wpAnyH_ready (rs := [7]) (by decide +kernel) (by simp) ?_
      refine AllReadyH.cons (o := { dst := none, op := Op.store 24 (Operand.tmp 4) (Operand.tmp 41), type := 0, pos := "ref.go:107", after := #[{ on := 6, ground := Ground.data }, { on := 5, ground := Ground.chain }, { on := 0, ground := Ground.phase }, { on := 1, ground := Ground.phase }, { on := 2, ground := Ground.phase }, { on := 3, ground := Ground.phase }, { on := 4, ground := Ground.phase }, { on := 5, ground := Ground.phase }, { on := 6, ground := Ground.phase }], guard := none }) rfl (fun K hK => ?_) AllReadyH.nil
      rw [if_pos (by rfl)]
      have HTRK : Bx (wz.there W1.heap.size 0 4) := ⟨there_row HRZ.out⟩
      refine wp_store_mid 24 (.tmp 4) (.tmp 41) rfl W1.heap.size 0 #[.string ⟨#[80, 85, 84]⟩, .string ((⟨#[47, 115, 112, 101, 99, 115, 47]⟩ : ByteArray) ++ an), .string ⟨#[]⟩, .slice vb n vc] rfl rfl ?htrpr97 req_info (req_one _ _ _ _ rfl) ?_
      case htrpr97 => exact HTRK.out
      have HRF : Bx ((wz.setCells W1.heap.size 0 #[.string ⟨#[80, 85, 84]⟩, .string ((⟨#[47, 115, 112, 101, 99, 115, 47]⟩ : ByteArray) ++ an), .string ⟨#[]⟩, .slice vb n vc].toList).heap[W1.heap.size]? = some (.cells #[.string ⟨#[80, 85, 84]⟩, .string ((⟨#[47, 115, 112, 101, 99, 115, 47]⟩ : ByteArray) ++ an), .string ⟨#[]⟩, .slice vb n vc] 24 (0, 0))) := ⟨heap_stored HRZ.out rfl⟩
      have HBF : Bx (Below W1.heap.size W1 (wz.setCells W1.heap.size 0 #[.string ⟨#[80, 85, 84]⟩, .string ((⟨#[47, 115, 112, 101, 99, 115, 47]⟩ : ByteArray) ++ an), .string ⟨#[]⟩, .slice vb n vc].toList)) := ⟨below_setCells HBZ.out _ (Nat.le_refl _) _ 0⟩
      have HOF : Bx ((wz.setCells W1.heap.size 0 #[.string ⟨#[80, 85, 84]⟩, .string ((⟨#[47, 115, 112, 101, 99, 115, 47]⟩ : ByteArray) ++ an), .string ⟨#[]⟩, .slice vb n vc].toList).ownsRow W1.heap.size 5 1 (.slice vb n vc) n (bv lb)) := ⟨own_lowR (owns_setCells HOZ.out (fun q hq => by have h1 := (HOZ.out.lt q hq).1; have h2 := HGK.out; omega)) (Nat.le_of_lt HGK.out)⟩
      have HKF : Bx ((wz.setCells W1.heap.size 0 #[.string ⟨#[80, 85, 84]⟩, .string ((⟨#[47, 115, 112, 101, 99, 115, 47]⟩ : ByteArray) ++ an), .string ⟨#[]⟩, .slice vb n vc].toList).cell? ⟨w.heap.size, 1, none⟩ = some (.string an) ∧ (wz.setCells W1.heap.size 0 #[.string ⟨#[80, 85, 84]⟩, .string ((⟨#[47, 115, 112, 101, 99, 115, 47]⟩ : ByteArray) ++ an), .string ⟨#[]⟩, .slice vb n vc].toList).cell? ⟨w.heap.size, 3, none⟩ = some (.slice ab n c)) := ⟨(World.cell?_of_block (setCells_other HNG.out _ _)).trans hk.1, (World.cell?_of_block (setCells_other HNG.out _ _)).trans hk.2⟩
      replace hk := HKF.out
      clear HKF HRZ HBZ HOZ
      generalize wz.setCells W1.heap.size 0 #[.string ⟨#[80, 85, 84]⟩, .string ((⟨#[47, 115, 112, 101, 99, 115, 47]⟩ : ByteArray) ++ an), .string ⟨#[]⟩, .slice vb n vc].toList = wk at hk HRF HBF HOF ⊢
      simp only [Act.put]
      refine hK.out _ _ hk (fun _ => ?_)
      clear hK K
      try simp only [Act.put, List.setIfInBounds_toArray, List.set_cons_zero, List.set_cons_succ]
      refine wpAnyH_done (by decide +kernel) ?_ _
      go_wp2_with fail
      go_meet
      exact RqB.of HPX.out HRF.out HOF.out HBF.out
    · have z1 : ¬ 9223372036854775807 < 6 + an.size := by omega
      have z2 : ¬ 9223372036854775807 < 6 + an.size + 1 := by omega
      have z3 : ¬ 9223372036854775807 < 6 + an.size + 1 + asp.size := by omega
      have HPX : Bx (prtX a = ⟨mPost, ⟨#[47, 106, 111, 98, 115, 47]⟩ ++ an ++ ⟨#[47]⟩ ++ asp, ⟨#[]⟩, []⟩ ∧ ([] : List Int).length = 0) := ⟨⟨by rw [pk4 HKK.out, HAN.out, HAS.out], rfl⟩⟩
      have HTR : Bx (w3.there W1.heap.size 0 4) := ⟨there_row HR3.out⟩
      have HRF : Bx ((w3.setCells W1.heap.size 0 #[.string ⟨#[80, 79, 83, 84]⟩, .string (⟨#[47, 106, 111, 98, 115, 47]⟩ ++ an ++ ⟨#[47]⟩ ++ asp), .string ⟨#[]⟩, .slice none 0 0].toList).heap[W1.heap.size]? = some (.cells #[.string ⟨#[80, 79, 83, 84]⟩, .string (⟨#[47, 106, 111, 98, 115, 47]⟩ ++ an ++ ⟨#[47]⟩ ++ asp), .string ⟨#[]⟩, .slice none 0 0] 24 (0, 0))) := ⟨heap_stored HR3.out rfl⟩
      have HBF : Bx (Below W1.heap.size W1 (w3.setCells W1.heap.size 0 #[.string ⟨#[80, 79, 83, 84]⟩, .string (⟨#[47, 106, 111, 98, 115, 47]⟩ ++ an ++ ⟨#[47]⟩ ++ asp), .string ⟨#[]⟩, .slice none 0 0].toList)) := ⟨below_setCells HB3.out _ (Nat.le_refl _) _ 0⟩
      go_wp2_with (refine wpList_store_mid rfl 24 (.tmp 4) (.tmp 51) rfl W1.heap.size 0 #[.string ⟨#[80, 79, 83, 84]⟩, .string (⟨#[47, 106, 111, 98, 115, 47]⟩ ++ an ++ ⟨#[47]⟩ ++ asp), .string ⟨#[]⟩, .slice none 0 0] rfl rfl HTR.out req_info (req_one _ _ _ _ rfl) ?_)
      go_wp2_with fail
      go_meet
      exact RqB.of HPX.out HRF.out (World.ownsRow_nil _ _ _ _) HBF.out
    · have z1 : ¬ 9223372036854775807 < 6 + dA.size := by omega
      have HPX : Bx (prtX a = ⟨mGet, ⟨#[47, 106, 111, 98, 115, 47]⟩ ++ dA, ⟨#[]⟩, []⟩ ∧ ([] : List Int).length = 0) := ⟨⟨by rw [pk5 HKK.out, HDA.out], rfl⟩⟩
      have f1 : w3.frozen? ⟨W1.heap.size, 1, none⟩ = false := frozen_of_row _ _ 1 _ _ HR3.out
      have r1 : w3.cell? ⟨W1.heap.size, 1, none⟩ = some (.string ⟨#[]⟩) := by rw [cell_of_row w3 _ 1 _ _ (0, 0) HR3.out]; rfl
      have HRF : Bx ((w3.setCell ⟨W1.heap.size, 1, none⟩ (.string (⟨#[47, 106, 111, 98, 115, 47]⟩ ++ dA))).heap[W1.heap.size]? = some (.cells #[.string ⟨#[71, 69, 84]⟩, .string (⟨#[47, 106, 111, 98, 115, 47]⟩ ++ dA), .string ⟨#[]⟩, .slice none 0 0] 24 (0, 0))) := ⟨heap_setCell_same w3 _ 1 _ _ _ HR3.out⟩
      have HBF : Bx (Below W1.heap.size W1 (w3.setCell ⟨W1.heap.size, 1, none⟩ (.string (⟨#[47, 106, 111, 98, 115, 47]⟩ ++ dA)))) := ⟨below_drop HB3.out (Nat.le_refl _) _ _⟩
      go_wp2_with fail
      go_meet
      exact RqB.of HPX.out HRF.out (World.ownsRow_nil _ _ _ _) HBF.out
    · have z1 : ¬ 9223372036854775807 < 7 + dA.size := by omega
      have HPX : Bx (prtX a = ⟨mGet, ⟨#[47, 104, 101, 97, 100, 115, 47]⟩ ++ dA, ⟨#[]⟩, []⟩ ∧ ([] : List Int).length = 0) := ⟨⟨by rw [pk6 HKK.out, HDA.out], rfl⟩⟩
      have f1 : w3.frozen? ⟨W1.heap.size, 1, none⟩ = false := frozen_of_row _ _ 1 _ _ HR3.out
      have r1 : w3.cell? ⟨W1.heap.size, 1, none⟩ = some (.string ⟨#[]⟩) := by rw [cell_of_row w3 _ 1 _ _ (0, 0) HR3.out]; rfl
      have HRF : Bx ((w3.setCell ⟨W1.heap.size, 1, none⟩ (.string (⟨#[47, 104, 101, 97, 100, 115, 47]⟩ ++ dA))).heap[W1.heap.size]? = some (.cells #[.string ⟨#[71, 69, 84]⟩, .string (⟨#[47, 104, 101, 97, 100, 115, 47]⟩ ++ dA), .string ⟨#[]⟩, .slice none 0 0] 24 (0, 0))) := ⟨heap_setCell_same w3 _ 1 _ _ _ HR3.out⟩
      have HBF : Bx (Below W1.heap.size W1 (w3.setCell ⟨W1.heap.size, 1, none⟩ (.string (⟨#[47, 104, 101, 97, 100, 115, 47]⟩ ++ dA)))) := ⟨below_drop HB3.out (Nat.le_refl _) _ _⟩
      go_wp2_with fail
      go_meet
      exact RqB.of HPX.out HRF.out (World.ownsRow_nil _ _ _ _) HBF.out
    · have z1 : ¬ 9223372036854775807 < 9 + dA.size := by omega
      have z2 : ¬ 9223372036854775807 < 9 + dA.size + 1 := by omega
      have z3 : ¬ 9223372036854775807 < 9 + dA.size + 1 + dB.size := by omega
      have HPX : Bx (prtX a = ⟨mGet, ⟨#[47, 101, 110, 116, 114, 105, 101, 115, 47]⟩ ++ dA ++ ⟨#[47]⟩ ++ dB, ⟨#[]⟩, []⟩ ∧ ([] : List Int).length = 0) := ⟨⟨by rw [pk7 HKK.out, HDA.out, HDB.out], rfl⟩⟩
      have f1 : w3.frozen? ⟨W1.heap.size, 1, none⟩ = false := frozen_of_row _ _ 1 _ _ HR3.out
      have r1 : w3.cell? ⟨W1.heap.size, 1, none⟩ = some (.string ⟨#[]⟩) := by rw [cell_of_row w3 _ 1 _ _ (0, 0) HR3.out]; rfl
      have HRF : Bx ((w3.setCell ⟨W1.heap.size, 1, none⟩ (.string (⟨#[47, 101, 110, 116, 114, 105, 101, 115, 47]⟩ ++ dA ++ ⟨#[47]⟩ ++ dB))).heap[W1.heap.size]? = some (.cells #[.string ⟨#[71, 69, 84]⟩, .string (⟨#[47, 101, 110, 116, 114, 105, 101, 115, 47]⟩ ++ dA ++ ⟨#[47]⟩ ++ dB), .string ⟨#[]⟩, .slice none 0 0] 24 (0, 0))) := ⟨heap_setCell_same w3 _ 1 _ _ _ HR3.out⟩
      have HBF : Bx (Below W1.heap.size W1 (w3.setCell ⟨W1.heap.size, 1, none⟩ (.string (⟨#[47, 101, 110, 116, 114, 105, 101, 115, 47]⟩ ++ dA ++ ⟨#[47]⟩ ++ dB)))) := ⟨below_drop HB3.out (Nat.le_refl _) _ _⟩
      go_wp2_with fail
      go_meet
      exact RqB.of HPX.out HRF.out (World.ownsRow_nil _ _ _ _) HBF.out
    · have z1 : ¬ 9223372036854775807 < 8 + dA.size := by omega
      have z2 : ¬ 9223372036854775807 < 8 + dA.size + 1 := by omega
      have z3 : ¬ 9223372036854775807 < 8 + dA.size + 1 + dB.size := by omega
      have HPX : Bx (prtX a = ⟨mGet, ⟨#[47, 103, 114, 111, 119, 116, 104, 47]⟩ ++ dA ++ ⟨#[47]⟩ ++ dB, ⟨#[]⟩, []⟩ ∧ ([] : List Int).length = 0) := ⟨⟨by rw [pk8 HKK.out, HDA.out, HDB.out], rfl⟩⟩
      have f1 : w3.frozen? ⟨W1.heap.size, 1, none⟩ = false := frozen_of_row _ _ 1 _ _ HR3.out
      have r1 : w3.cell? ⟨W1.heap.size, 1, none⟩ = some (.string ⟨#[]⟩) := by rw [cell_of_row w3 _ 1 _ _ (0, 0) HR3.out]; rfl
      have HRF : Bx ((w3.setCell ⟨W1.heap.size, 1, none⟩ (.string (⟨#[47, 103, 114, 111, 119, 116, 104, 47]⟩ ++ dA ++ ⟨#[47]⟩ ++ dB))).heap[W1.heap.size]? = some (.cells #[.string ⟨#[71, 69, 84]⟩, .string (⟨#[47, 103, 114, 111, 119, 116, 104, 47]⟩ ++ dA ++ ⟨#[47]⟩ ++ dB), .string ⟨#[]⟩, .slice none 0 0] 24 (0, 0))) := ⟨heap_setCell_same w3 _ 1 _ _ _ HR3.out⟩
      have HBF : Bx (Below W1.heap.size W1 (w3.setCell ⟨W1.heap.size, 1, none⟩ (.string (⟨#[47, 103, 114, 111, 119, 116, 104, 47]⟩ ++ dA ++ ⟨#[47]⟩ ++ dB)))) := ⟨below_drop HB3.out (Nat.le_refl _) _ _⟩
      go_wp2_with fail
      go_meet
      exact RqB.of HPX.out HRF.out (World.ownsRow_nil _ _ _ _) HBF.out
    · skip
      have HPX : Bx (prtX a = ⟨mGet, ⟨#[47, 117, 115, 97, 103, 101]⟩, ⟨#[]⟩, []⟩ ∧ ([] : List Int).length = 0) := ⟨⟨pk9 HKK.out, rfl⟩⟩
      have f1 : w3.frozen? ⟨W1.heap.size, 1, none⟩ = false := frozen_of_row _ _ 1 _ _ HR3.out
      have r1 : w3.cell? ⟨W1.heap.size, 1, none⟩ = some (.string ⟨#[]⟩) := by rw [cell_of_row w3 _ 1 _ _ (0, 0) HR3.out]; rfl
      have HRF : Bx ((w3.setCell ⟨W1.heap.size, 1, none⟩ (.string (⟨#[47, 117, 115, 97, 103, 101]⟩))).heap[W1.heap.size]? = some (.cells #[.string ⟨#[71, 69, 84]⟩, .string (⟨#[47, 117, 115, 97, 103, 101]⟩), .string ⟨#[]⟩, .slice none 0 0] 24 (0, 0))) := ⟨heap_setCell_same w3 _ 1 _ _ _ HR3.out⟩
      have HBF : Bx (Below W1.heap.size W1 (w3.setCell ⟨W1.heap.size, 1, none⟩ (.string (⟨#[47, 117, 115, 97, 103, 101]⟩)))) := ⟨below_drop HB3.out (Nat.le_refl _) _ _⟩
      go_wp2_with fail
      go_meet
      exact RqB.of HPX.out HRF.out (World.ownsRow_nil _ _ _ _) HBF.out
    · skip
      have HPX : Bx (prtX a = ⟨mGet, ⟨#[47, 104, 101, 97, 100]⟩, ⟨#[]⟩, []⟩ ∧ ([] : List Int).length = 0) := ⟨⟨pk10 HKK.out, rfl⟩⟩
      have f1 : w3.frozen? ⟨W1.heap.size, 1, none⟩ = false := frozen_of_row _ _ 1 _ _ HR3.out
      have r1 : w3.cell? ⟨W1.heap.size, 1, none⟩ = some (.string ⟨#[]⟩) := by rw [cell_of_row w3 _ 1 _ _ (0, 0) HR3.out]; rfl
      have HRF : Bx ((w3.setCell ⟨W1.heap.size, 1, none⟩ (.string (⟨#[47, 104, 101, 97, 100]⟩))).heap[W1.heap.size]? = some (.cells #[.string ⟨#[71, 69, 84]⟩, .string (⟨#[47, 104, 101, 97, 100]⟩), .string ⟨#[]⟩, .slice none 0 0] 24 (0, 0))) := ⟨heap_setCell_same w3 _ 1 _ _ _ HR3.out⟩
      have HBF : Bx (Below W1.heap.size W1 (w3.setCell ⟨W1.heap.size, 1, none⟩ (.string (⟨#[47, 104, 101, 97, 100]⟩)))) := ⟨below_drop HB3.out (Nat.le_refl _) _ _⟩
      go_wp2_with fail
      go_meet
      exact RqB.of HPX.out HRF.out (World.ownsRow_nil _ _ _ _) HBF.out
    · have HPX : Bx (prtX a = ⟨mGet, ⟨#[]⟩, ⟨#[]⟩, []⟩ ∧ ([] : List Int).length = 0) := ⟨⟨pk0 (by rw [HKK.out]; exact h0), rfl⟩⟩
      have t1 : (kk == 1) = false := by simp; omega
      have t2 : (kk == 2) = false := by simp; omega
      have t3 : (kk == 3) = false := by simp; omega
      have t4 : (kk == 4) = false := by simp; omega
      have t5 : (kk == 5) = false := by simp; omega
      have t6 : (kk == 6) = false := by simp; omega
      have t7 : (kk == 7) = false := by simp; omega
      have t8 : (kk == 8) = false := by simp; omega
      have t9 : (kk == 9) = false := by simp; omega
      have t10 : (kk == 10) = false := by simp; omega
      clear h0
      go_wp2_with fail
      go_meet
      exact RqB.of HPX.out HR3.out (World.ownsRow_nil _ _ _ _) HB3.out
  case rest =>
    obtain ⟨xa, xc, hrx, hox, hbc⟩ := hcut
    have HPRT : Bx (prtV a = if prtOk a = true then (prtX a, 0) else (wx0, 2)) := ⟨rfl⟩
    have HOK0 : Bx (prtOk a = (decide ((parV (prtX a)).2 = 200) && asE a (parV (prtX a)).1)) := ⟨rfl⟩
    have hts : (prtX a).t.size ≤ 1000000 := by
      rw [prtX_t]
      unfold tgtP
      have e1 : ∀ u : ByteArray, u.size ≤ 100 → (u ++ a.nm).size ≤ 2000 := fun u hu => by rw [Lib.size_eq, app_data, List.length_append, ← Lib.size_eq, ← Lib.size_eq]; rw [HAN.out]; omega
      have e2 : ∀ u : ByteArray, u.size ≤ 100 → (u ++ decS a.A).size ≤ 200 := fun u hu => by rw [Lib.size_eq, app_data, List.length_append, ← Lib.size_eq, ← Lib.size_eq]; rw [HDA.out]; omega
      have e3 : ∀ u v : ByteArray, (u ++ v).size = u.size + v.size := fun u v => by rw [Lib.size_eq, app_data, List.length_append, ← Lib.size_eq, ← Lib.size_eq]
      have s1 : (⟨#[47]⟩ : ByteArray).size = 1 := rfl
      repeat' split
      · have := e1 ⟨#[47, 117, 112, 108, 111, 97, 100, 115, 47]⟩ (by decide +kernel); omega
      · have := e1 ⟨#[47, 104, 105, 115, 116, 111, 114, 105, 101, 115, 47]⟩ (by decide +kernel); omega
      · have := e1 ⟨#[47, 115, 112, 101, 99, 115, 47]⟩ (by decide +kernel); omega
      · have := e1 ⟨#[47, 106, 111, 98, 115, 47]⟩ (by decide +kernel); rw [e3, e3, s1, HAS.out]; omega
      · have := e2 ⟨#[47, 106, 111, 98, 115, 47]⟩ (by decide +kernel); omega
      · have := e2 ⟨#[47, 104, 101, 97, 100, 115, 47]⟩ (by decide +kernel); omega
      · have := e2 ⟨#[47, 101, 110, 116, 114, 105, 101, 115, 47]⟩ (by decide +kernel); rw [e3, e3, s1, HDB.out]; omega
      · have := e2 ⟨#[47, 103, 114, 111, 119, 116, 104, 47]⟩ (by decide +kernel); rw [e3, e3, s1, HDB.out]; omega
      · decide +kernel
      · decide +kernel
      · decide +kernel
    have HLB : Bx ((prtX a).b.length ≤ 1000000) := ⟨by
      have h0 := (HALL.out wc hbc).2.2.2.len_eq
      rw [prtX_b]
      split
      · have := HXN.out; omega
      · simp⟩
    have HBX : Bx (Byt (prtX a).b) := ⟨by
      have h0 := (HALL.out wc hbc).2.2.2.byt
      rw [prtX_b]
      split
      · exact h0
      · exact Byt.nil⟩
    have HPA : Bx (∀ W (xa : Option Addr) (xn xc : Nat), Bts W xa xn xc (prtX a).b → xn ≤ 1000000 → Calls Tryd.prog 8 #[reqV (prtX a) (.slice xa xn xc)] W (ParP (parV (prtX a)) W)) := ⟨fun W xa xn xc h2 h3 => rparse_any (prtX a) xa xn xc W h2 hts h3⟩
    clear hts d0 d1 d2 d3
    generalize prtX a = x at *
    generalize parV x = y at *
    obtain ⟨b, code⟩ := y
    unfold reqV at HPA
    have HPC := Bx.mk (HPA.out wc xa _ xc (by
      obtain ⟨a9, c9, h9, hb9⟩ := Bts.of_owns hox HBX.out
      cases h9; exact hb9) HLB.out)
    have HRX := Bx.mk hrx
    have HOX := Bx.mk hox
    have HBC := Bx.mk hbc
    have HGX : Bx (W1.heap.size < wc.heap.size) := ⟨(Array.getElem?_eq_some_iff.1 hrx).1⟩
    clear hrx hox hbc HPA HR3 HB3 hsA hsB hn1 hn2
    go_wp2_with (refine wpList_load_row rfl 24 (.tmp 4) rfl W1.heap.size rfl 24 #[.string x.m, .string x.t, .string x.k, .slice xa x.b.length xc] (0, 0) _ HRX.out Tryd.underlying24 rfl req_info ?_)
    refine HPC.out.mono ?_
    rintro e w4 ⟨ba, bc, rfl, hob, hbb, hb4⟩
    dsimp only at hob hbb hb4 ⊢
    obtain ⟨aB, cB, hBB, hbB⟩ := Bts.of_owns hob hbb
    cases hBB
    have hN5 := heap_alloc_new w4 (.cells (askV b ba b.b.length bc) 27)
    have hNB5 : Below w4.heap.size w4 (w4.alloc (.cells (askV b ba b.b.length bc) 27)) := (Below.refl _ _).alloc (Nat.le_refl _) _
    unfold askV at hN5 hNB5
    go_upto_region 25 with fail
    generalize hw5 : w4.alloc (.cells #[.int .i64 b.k, .string b.nm, .string b.sp, .slice ba b.b.length bc, .int .i64 b.A, .int .i64 b.B] 27) = w5 at *
    clear hw5
    have hB35 : Below wc.heap.size wc w5 := bstep hb4 hNB5
    have hB5 : Below W1.heap.size W1 w5 := bstep HBC.out hB35
    obtain ⟨hA5, hZ9, hB9, hX5⟩ := HALL.out w5 hB5
    have HBB5 := Bx.mk (hbB.below hNB5)
    have HO5 := Bx.mk (owns_below HOX.out hB35)
    have HN5 : Bx (w5.heap[W1.heap.size]? = some (.cells #[.string x.m, .string x.t, .string x.k, .slice xa x.b.length xc] 24 (0, 0))) := ⟨(hB35.block _ HGX.out).trans HRX.out⟩
    have HX5 := Bx.mk hX5
    by_cases hc : code = 200
    · have g1 : (code != 200) = false := by simp [hc]
      have HOK1 : Bx (prtOk a = asE a b) := ⟨by rw [HOK0.out, decide_eq_true hc]; rfl⟩
      have a0 : w5.cell? ⟨w.heap.size, 0, none⟩ = some (.int .i64 a.k) := by rw [cell_of_row w5 _ 0 _ _ (0, 0) hA5]; rfl
      have a1 : w5.cell? ⟨w.heap.size, 1, none⟩ = some (.string a.nm) := by rw [cell_of_row w5 _ 1 _ _ (0, 0) hA5]; rfl
      have a2 : w5.cell? ⟨w.heap.size, 2, none⟩ = some (.string a.sp) := by rw [cell_of_row w5 _ 2 _ _ (0, 0) hA5]; rfl
      have a3 : w5.cell? ⟨w.heap.size, 3, none⟩ = some (.slice ab n c) := by rw [cell_of_row w5 _ 3 _ _ (0, 0) hA5]; rfl
      have a4 : w5.cell? ⟨w.heap.size, 4, none⟩ = some (.int .i64 a.A) := by rw [cell_of_row w5 _ 4 _ _ (0, 0) hA5]; rfl
      have a5 : w5.cell? ⟨w.heap.size, 5, none⟩ = some (.int .i64 a.B) := by rw [cell_of_row w5 _ 5 _ _ (0, 0) hA5]; rfl
      have b0 : w5.cell? ⟨w4.heap.size, 0, none⟩ = some (.int .i64 b.k) := by rw [cell_of_row w5 _ 0 _ _ (0, 0) hN5]; rfl
      have b1 : w5.cell? ⟨w4.heap.size, 1, none⟩ = some (.string b.nm) := by rw [cell_of_row w5 _ 1 _ _ (0, 0) hN5]; rfl
      have b2 : w5.cell? ⟨w4.heap.size, 2, none⟩ = some (.string b.sp) := by rw [cell_of_row w5 _ 2 _ _ (0, 0) hN5]; rfl
      have b3 : w5.cell? ⟨w4.heap.size, 3, none⟩ = some (.slice ba b.b.length bc) := by rw [cell_of_row w5 _ 3 _ _ (0, 0) hN5]; rfl
      have b4 : w5.cell? ⟨w4.heap.size, 4, none⟩ = some (.int .i64 b.A) := by rw [cell_of_row w5 _ 4 _ _ (0, 0) hN5]; rfl
      have b5 : w5.cell? ⟨w4.heap.size, 5, none⟩ = some (.int .i64 b.B) := by rw [cell_of_row w5 _ 5 _ _ (0, 0) hN5]; rfl
      have HSM := Bx.mk (rfsame_any a b ab ba n b.b.length c bc w5 HX5.out HBB5.out)
      have HZ9 := Bx.mk hZ9
      have HB9 := Bx.mk hB9
      unfold askV at HSM
      clear hA5 hN5 hc hX5 hb4 hNB5 hB35 hB5 hbB hob hbb HALL HX5 HBB5 HPC HOX hZ9 hB9
      go_wp2_with fail
      refine HSM.out.mono ?_
      rintro e w6 ⟨rfl, hb6⟩
      have hB9 : Below w.heap.size w w6 := bstep HB9.out hb6
      have hZ9 : w6.heap[w.heap.size + 1]? = some (.cells reqZ 24 (0, 0)) := (hb6.block _ (Array.getElem?_eq_some_iff.1 HZ9.out).1).trans HZ9.out
      have hN6 : w6.heap[W1.heap.size]? = some (.cells #[.string x.m, .string x.t, .string x.k, .slice xa x.b.length xc] 24 (0, 0)) := (hb6.block _ (Array.getElem?_eq_some_iff.1 HN5.out).1).trans HN5.out
      have ho6 := owns_below HO5.out hb6
      cases hs : asE a b with
      | false =>
        have HOK : Bx (prtOk a = false) := ⟨HOK1.out.trans hs⟩
        clear hs hb6 hN6 ho6 a0 a1 a2 a3 a4 a5 b0 b1 b2 b3 b4 b5
        have HPT : Bx (prtV a = (wx0, 2)) := ⟨by rw [HPRT.out, if_neg (by rw [HOK.out]; decide)]⟩
        have HTR : Bx (w6.there (w.heap.size + 1) 0 4) := ⟨there_row hZ9⟩
        have HST : Bx ((w6.setCells (w.heap.size + 1) 0 reqZ.toList).heap[w.heap.size + 1]? = some (.cells reqZ 24 (0, 0))) := ⟨heap_stored hZ9 rfl⟩
        have HFB : Bx (Below w.heap.size w (w6.setCells (w.heap.size + 1) 0 reqZ.toList)) := ⟨below_setCells hB9 _ (by omega) _ 0⟩
        clear hZ9 hB9
        go_wp2_with (refine wpList_store_mid rfl 24 (.tmp 2) (.tmp 97) rfl (w.heap.size + 1) 0 reqZ rfl rfl HTR.out req_info (req_one _ _ _ _ rfl) ?_)
        refine bodyPost_ret (v := .tuple #[.agg reqZ, .int .i64 2]) (results_rt rfl _ _ (w.heap.size + 1) reqZ _ rfl rfl HST.out req_info) rfl ?_
        rw [HPT.out]
        exact ⟨none, 0, rfl, World.ownsRow_nil _ _ _ _, Byt.nil, HFB.out⟩
      | true =>
        have HPT : Bx (prtV a = (x, 0)) := ⟨by rw [HPRT.out, if_pos (HOK1.out.trans hs)]⟩
        have HN6 := Bx.mk hN6
        have HTR : Bx (w6.there (w.heap.size + 1) 0 4) := ⟨there_row hZ9⟩
        have HST : Bx ((w6.setCells (w.heap.size + 1) 0 #[.string x.m, .string x.t, .string x.k, .slice xa x.b.length xc].toList).heap[w.heap.size + 1]? = some (.cells #[.string x.m, .string x.t, .string x.k, .slice xa x.b.length xc] 24 (0, 0))) := ⟨heap_stored hZ9 rfl⟩
        have HFB : Bx (Below w.heap.size w (w6.setCells (w.heap.size + 1) 0 #[.string x.m, .string x.t, .string x.k, .slice xa x.b.length xc].toList)) := ⟨below_setCells hB9 _ (by omega) _ 0⟩
        have HO8 : Bx ((w6.setCells (w.heap.size + 1) 0 #[.string x.m, .string x.t, .string x.k, .slice xa x.b.length xc].toList).ownsRow w.heap.size 5 1 (.slice xa x.b.length xc) x.b.length (bv x.b)) := ⟨own_lowR (owns_setCells ho6 (fun q hq => by have := (ho6.lt q hq).1; have := HW1.out; omega)) (by have := HW1.out; omega)⟩
        clear hs hb6 hN6 ho6 hZ9 hB9 a0 a1 a2 a3 a4 a5 b0 b1 b2 b3 b4 b5
        go_wp2_with (first
          | (refine wpList_load_row rfl 24 (.tmp 4) rfl W1.heap.size rfl 24 #[.string x.m, .string x.t, .string x.k, .slice xa x.b.length xc] (0, 0) _ HN6.out Tryd.underlying24 rfl req_info ?_)
          | (refine wpList_store_mid rfl 24 (.tmp 2) (.tmp 98) rfl (w.heap.size + 1) 0 #[.string x.m, .string x.t, .string x.k, .slice xa x.b.length xc] rfl rfl HTR.out req_info (req_one _ _ _ _ rfl) ?_))
        refine bodyPost_ret (v := .tuple #[.agg #[.string x.m, .string x.t, .string x.k, .slice xa x.b.length xc], .int .i64 0]) (results_rt rfl _ _ (w.heap.size + 1) #[.string x.m, .string x.t, .string x.k, .slice xa x.b.length xc] _ rfl rfl HST.out req_info) rfl ?_
        rw [HPT.out]
        exact ⟨xa, xc, rfl, HO8.out, HBX.out, HFB.out⟩
    · have g1 : (code != 200) = true := by simp [hc]
      have HOK : Bx (prtOk a = false) := ⟨by rw [HOK0.out, decide_eq_false hc]; rfl⟩
      clear hc hA5 hX5 hb4 hNB5 hB35 hB5 hbB hob hbb HALL HX5 HBB5 HPC hN5
      have HPT : Bx (prtV a = (wx0, 2)) := ⟨by rw [HPRT.out, if_neg (by rw [HOK.out]; decide)]⟩
      have HTR : Bx (w5.there (w.heap.size + 1) 0 4) := ⟨there_row hZ9⟩
      have HST : Bx ((w5.setCells (w.heap.size + 1) 0 reqZ.toList).heap[w.heap.size + 1]? = some (.cells reqZ 24 (0, 0))) := ⟨heap_stored hZ9 rfl⟩
      have HFB : Bx (Below w.heap.size w (w5.setCells (w.heap.size + 1) 0 reqZ.toList)) := ⟨below_setCells hB9 _ (by omega) _ 0⟩
      clear hZ9 hB9
      go_wp2_with (refine wpList_store_mid rfl 24 (.tmp 2) (.tmp 97) rfl (w.heap.size + 1) 0 reqZ rfl rfl HTR.out req_info (req_one _ _ _ _ rfl) ?_)
      refine bodyPost_ret (v := .tuple #[.agg reqZ, .int .i64 2]) (results_rt rfl _ _ (w.heap.size + 1) reqZ _ rfl rfl HST.out req_info) rfl ?_
      rw [HPT.out]
      exact ⟨none, 0, rfl, World.ownsRow_nil _ _ _ _, Byt.nil, HFB.out⟩
end Go.Proofs.YtpfijaojgeceeaaDoor
