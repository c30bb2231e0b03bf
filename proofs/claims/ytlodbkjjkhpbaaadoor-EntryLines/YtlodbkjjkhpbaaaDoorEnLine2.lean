/- A verdict in words: the program's Line, the document's own Word and Line. -/
import Derived.Test.YtlodbkjjkhpbaaaDoorEnLine
import Derived.Lib.SmallJoins
namespace Go.Proofs.YtlodbkjjkhpbaaaDoor
open Go.RowKit
set_option linter.unusedVariables false

set_option maxRecDepth 100000 in
theorem wordS_size (k : Int) : (wordS k).size ≤ 12 := by
  unfold wordS
  split
  · decide
  split
  · decide
  split
  · decide
  split
  · decide
  · decide
set_option maxRecDepth 100000 in
theorem jnS_size {o : List Int} (h : IvK o) : (jnS o).size ≤ 22 * o.length := by
  unfold jnS; rw [Lib.size_eq]; exact jnL_len h
set_option maxRecDepth 100000 in
theorem lstS_size {o : List Int} (h : IvK o) : (lstS o).size ≤ 22 * o.length + 1 := by
  unfold lstS; split
  · exact Nat.le_add_left _ _
  · have := jnS_size h; omega
/-- a verdict's line -/
def headS (k r : Int) : ByteArray := wordS k ++ ⟨#[32]⟩ ++ decS r ++ ⟨#[32]⟩
def lineS (k r : Int) (o : List Int) : ByteArray := headS k r ++ lstS o
set_option maxHeartbeats 4000000 in
set_option maxRecDepth 100000 in
theorem line20_any (k r : Int) (a : Option Addr) (len cap : Nat) (o : List Int) (w : World) (h : Ivs w a len cap o) (hk : IvK o) (hr : V64 r) (hl : len ≤ 100) (ht : Tens w) :
    Calls Tryd.prog 5 #[.agg #[.int .i64 k, .slice a len cap, .int .i64 r]] w fun x w' => x = .returned (.string (lineS k r o)) ∧ Below w.heap.size w w' := by
  have hb0 : Below w.heap.size w (w.alloc (.cells #[.int .i64 k, .slice a len cap, .int .i64 r] 26)) := (Below.refl _ _).alloc (Nat.le_refl _) _
  have hr0 := heap_alloc_new w (.cells #[.int .i64 k, .slice a len cap, .int .i64 r] 26)
  obtain ⟨g1, HG⟩ : ∃ g1, Bx (g1 = w.heap.size) := ⟨_, ⟨rfl⟩⟩
  rw [← HG.out] at hr0
  have HB := Bx.mk hb0
  have HR := Bx.mk hr0
  have HI := Bx.mk (h.below hb0)
  have HT := Bx.mk (ht.below hb0)
  have HOK := Bx.mk hk
  have HRB : Bx (-9223372036854775808 ≤ r ∧ r ≤ 9223372036854775807) := ⟨hr⟩
  obtain ⟨WS, HWS⟩ : ∃ WS, Bx (wordS k = WS) := ⟨_, ⟨rfl⟩⟩
  obtain ⟨RS, HRS⟩ : ∃ RS, Bx ((⟨(Lib.itoa r).toArray⟩ : ByteArray) = RS) := ⟨_, ⟨rfl⟩⟩
  obtain ⟨LS, HLS⟩ : ∃ LS, Bx (lstS o = LS) := ⟨_, ⟨rfl⟩⟩
  have z1 : WS.size ≤ 12 := by rw [← HWS.out]; exact wordS_size k
  have z2 : RS.size ≤ 21 := by rw [← HRS.out]; exact decS_size hr.1 hr.2
  have z3 : LS.size ≤ 2201 := by rw [← HLS.out]; have h1 := lstS_size hk; have h2 := h.len_eq; omega
  have q1 : ¬ 9223372036854775807 < WS.size + 1 := by omega
  have q2 : ¬ 9223372036854775807 < WS.size + 1 + RS.size := by omega
  have q3 : ¬ 9223372036854775807 < WS.size + 1 + RS.size + 1 := by omega
  have q4 : ¬ 9223372036854775807 < WS.size + 1 + RS.size + 1 + LS.size := by omega
  have HF : Bx (lineS k r o = WS ++ ⟨#[32]⟩ ++ RS ++ ⟨#[32]⟩ ++ LS) := ⟨by unfold lineS headS; rw [HWS.out, HLS.out, show decS r = RS from HRS.out]⟩
  clear h hk hr ht hb0 hr0
  go_enter Tryd.func5, Tryd.ntmps5
  go_upto_region 1 with fail
  rw [← HG.out]
  generalize w.alloc (.cells #[.int .i64 k, .slice a len cap, .int .i64 r] 26) = wa at HB HR HI HT ⊢
  obtain ⟨Qq, HQE⟩ : ∃ Qq : World → Prop, Bx (Qq = fun W => W.heap[g1]? = some (.cells #[.int .i64 k, .slice a len cap, .int .i64 r] 26 (0, 0)) ∧ Ivs W a len cap o ∧ Tens W) := ⟨_, ⟨rfl⟩⟩
  have HQQ : Bx (∀ W, Qq W → W.cell? ⟨g1, 0, none⟩ = some (.int .i64 k) ∧ W.cell? ⟨g1, 1, none⟩ = some (.slice a len cap) ∧ W.cell? ⟨g1, 2, none⟩ = some (.int .i64 r) ∧ Ivs W a len cap o ∧ Tens W) := ⟨fun W h => by
    rw [HQE.out] at h
    exact ⟨cell_of_row _ g1 0 _ _ (0, 0) h.1, cell_of_row _ g1 1 _ _ (0, 0) h.1, cell_of_row _ g1 2 _ _ (0, 0) h.1, h.2.1, h.2.2⟩⟩
  have hk0 : HX Qq w wa := ⟨HB.out, by rw [HQE.out]; exact fun W W' h hb => ⟨(hb.block g1 (Array.getElem?_eq_some_iff.1 h.1).1).trans h.1, h.2.1.below hb, h.2.2.below hb⟩, by rw [HQE.out]; exact ⟨HR.out, HI.out, HT.out⟩⟩
  have hk := hk0.step (W' := wa.drew) ⟨rfl, rfl, rfl, Nat.le_refl _, fun _ _ => rfl⟩
  clear hk0 HQE HR HI HT HB
  refine wp_region_held_drew (S := fun W => HX Qq w W) (by kernel_rfl) hk (fun _ => ?_)
  generalize wa.drew = wk at hk ⊢
  refine wpAnyH_take (i := 0) (oi := { dst := some 3, op := Op.fieldAddr 26 (Operand.tmp 1) 0, type := 0, pos := "entry.go:64", after := #[], guard := none }) (v := ?veli11) rfl (by kernel_rfl) (by kernel_rfl) (by kernel_rfl) (fun _ _ _ h => h) (Or.inl ⟨by rfl, ?yeli11⟩) hk ?reli11
  case yeli11 => (intro w hSw; (try dsimp only at hSw); go_simp; first | done | with_reducible rfl)
  simp only [Act.put, List.setIfInBounds_toArray, List.set_cons_zero, List.set_cons_succ]
  refine wpAnyH_take (i := 1) (oi := { dst := some 4, op := Op.load 3 (Operand.tmp 3), type := 3, pos := "entry.go:64", after := #[{ on := 0, ground := Ground.data }], guard := none }) (v := ?veli12) rfl (by kernel_rfl) (by kernel_rfl) (by kernel_rfl) (fun _ _ _ h => h) (Or.inl ⟨by rfl, ?yeli12⟩) hk ?reli12
  case yeli12 => (intro w hSw; have hcw := (HQQ.out _ hSw.q).1; clear hSw; go_simp; first | done | with_reducible rfl)
  simp only [Act.put, List.setIfInBounds_toArray, List.set_cons_zero, List.set_cons_succ]
  refine wpAnyH_take (i := 4) (oi := { dst := some 7, op := Op.fieldAddr 26 (Operand.tmp 1) 2, type := 0, pos := "entry.go:64", after := #[], guard := none }) (v := ?veli13) rfl (by kernel_rfl) (by kernel_rfl) (by kernel_rfl) (fun _ _ _ h => h) (Or.inl ⟨by rfl, ?yeli13⟩) hk ?reli13
  case yeli13 => (intro w hSw; (try dsimp only at hSw); go_simp; first | done | with_reducible rfl)
  simp only [Act.put, List.setIfInBounds_toArray, List.set_cons_zero, List.set_cons_succ]
  refine wpAnyH_take (i := 5) (oi := { dst := some 8, op := Op.load 3 (Operand.tmp 7), type := 3, pos := "entry.go:64", after := #[{ on := 4, ground := Ground.data }], guard := none }) (v := ?veli14) rfl (by kernel_rfl) (by kernel_rfl) (by kernel_rfl) (fun _ _ _ h => h) (Or.inl ⟨by rfl, ?yeli14⟩) hk ?reli14
  case yeli14 => (intro w hSw; have hcw := (HQQ.out _ hSw.q).2.2.1; clear hSw; go_simp; first | done | with_reducible rfl)
  simp only [Act.put, List.setIfInBounds_toArray, List.set_cons_zero, List.set_cons_succ]
  refine wpAnyH_take (i := 9) (oi := { dst := some 12, op := Op.fieldAddr 26 (Operand.tmp 1) 1, type := 0, pos := "entry.go:64", after := #[], guard := none }) (v := ?veli15) rfl (by kernel_rfl) (by kernel_rfl) (by kernel_rfl) (fun _ _ _ h => h) (Or.inl ⟨by rfl, ?yeli15⟩) hk ?reli15
  case yeli15 => (intro w hSw; (try dsimp only at hSw); go_simp; first | done | with_reducible rfl)
  simp only [Act.put, List.setIfInBounds_toArray, List.set_cons_zero, List.set_cons_succ]
  refine wpAnyH_take (i := 10) (oi := { dst := some 13, op := Op.load 24 (Operand.tmp 12), type := 24, pos := "entry.go:64", after := #[{ on := 9, ground := Ground.data }], guard := none }) (v := ?veli16) rfl (by kernel_rfl) (by kernel_rfl) (by kernel_rfl) (fun _ _ _ h => h) (Or.inl ⟨by rfl, ?yeli16⟩) hk ?reli16
  case yeli16 => (intro w hSw; have hcw := (HQQ.out _ hSw.q).2.1; clear hSw; go_simp; first | done | with_reducible rfl)
  simp only [Act.put, List.setIfInBounds_toArray, List.set_cons_zero, List.set_cons_succ]
  refine wpAnyH_ready (rs := [2]) (by decide +kernel) (by simp) ?_
  refine AllReadyH.cons (o := { dst := some 5, op := Op.call { callee := Callee.value (Operand.func 7), args := #[Operand.tmp 4], argTypes := #[3] }, type := 9, pos := "entry.go:64", after := #[{ on := 1, ground := Ground.data }], guard := none }) rfl (fun K hK => ?_) AllReadyH.nil
  go_simp
  refine (word_any k _).mono ?_
  rintro x w1 ⟨rfl, hw1⟩
  subst hw1
  rw [HWS.out]
  refine hK.out _ _ hk (fun _ => ?_)
  clear hK K
  try simp only [Act.put, List.setIfInBounds_toArray, List.set_cons_zero, List.set_cons_succ]
  refine wpAnyH_take (i := 3) (oi := { dst := some 6, op := Op.binOp BinOp.add 9 (Operand.tmp 5) (Operand.const (Value.string { data := #[32] })) 9, type := 9, pos := "entry.go:64", after := #[{ on := 2, ground := Ground.data }], guard := none }) (v := ?veli17) rfl (by kernel_rfl) (by kernel_rfl) (by kernel_rfl) (fun _ _ _ h => h) (Or.inl ⟨by rfl, ?yeli17⟩) hk ?reli17
  case yeli17 => (intro w hSw; (try dsimp only at hSw); go_simp; first | done | with_reducible rfl)
  simp only [Act.put, List.setIfInBounds_toArray, List.set_cons_zero, List.set_cons_succ]
  refine wpAnyH_ready (rs := [6]) (by decide +kernel) (by simp) ?_
  refine AllReadyH.cons (o := { dst := some 9, op := Op.call { callee := Callee.value (Operand.func 10), args := #[Operand.tmp 8], argTypes := #[3] }, type := 9, pos := "entry.go:64", after := #[{ on := 5, ground := Ground.data }, { on := 2, ground := Ground.chain }], guard := none }) rfl (fun K hK => ?_) AllReadyH.nil
  go_simp
  refine (dec_any r HRB.out.1 HRB.out.2 _ (HQQ.out _ hk.q).2.2.2.2).mono ?_
  rintro x w2 ⟨rfl, hb2⟩
  rw [HRS.out]
  replace hk := hk.step hb2
  clear hb2
  refine hK.out _ _ hk (fun _ => ?_)
  clear hK K
  try simp only [Act.put, List.setIfInBounds_toArray, List.set_cons_zero, List.set_cons_succ]
  refine wpAnyH_take (i := 7) (oi := { dst := some 10, op := Op.binOp BinOp.add 9 (Operand.tmp 6) (Operand.tmp 9) 9, type := 9, pos := "entry.go:64", after := #[{ on := 3, ground := Ground.data }, { on := 6, ground := Ground.data }], guard := none }) (v := ?veli18) rfl (by kernel_rfl) (by kernel_rfl) (by kernel_rfl) (fun _ _ _ h => h) (Or.inl ⟨by rfl, ?yeli18⟩) hk ?reli18
  case yeli18 => (intro w hSw; (try dsimp only at hSw); go_simp; first | done | with_reducible rfl)
  simp only [Act.put, List.setIfInBounds_toArray, List.set_cons_zero, List.set_cons_succ]
  refine wpAnyH_take (i := 8) (oi := { dst := some 11, op := Op.binOp BinOp.add 9 (Operand.tmp 10) (Operand.const (Value.string { data := #[32] })) 9, type := 9, pos := "entry.go:64", after := #[{ on := 7, ground := Ground.data }], guard := none }) (v := ?veli19) rfl (by kernel_rfl) (by kernel_rfl) (by kernel_rfl) (fun _ _ _ h => h) (Or.inl ⟨by rfl, ?yeli19⟩) hk ?reli19
  case yeli19 => (intro w hSw; (try dsimp only at hSw); go_simp; first | done | with_reducible rfl)
  simp only [Act.put, List.setIfInBounds_toArray, List.set_cons_zero, List.set_cons_succ]
  refine wpAnyH_ready (rs := [11]) (by decide +kernel) (by simp) ?_
  refine AllReadyH.cons (o := { dst := some 14, op := Op.call { callee := Callee.value (Operand.func 11), args := #[Operand.tmp 13], argTypes := #[24] }, type := 9, pos := "entry.go:64", after := #[{ on := 10, ground := Ground.data }, { on := 6, ground := Ground.chain }], guard := none }) rfl (fun K hK => ?_) AllReadyH.nil
  go_simp
  refine (listed20_any a len cap o _ (HQQ.out _ hk.q).2.2.2.1 HOK.out hl (HQQ.out _ hk.q).2.2.2.2).mono ?_
  rintro x w3 ⟨rfl, hb3⟩
  rw [HLS.out]
  replace hk := hk.step hb3
  clear hb3
  refine hK.out _ _ hk (fun _ => ?_)
  clear hK K
  try simp only [Act.put, List.setIfInBounds_toArray, List.set_cons_zero, List.set_cons_succ]
  refine wpAnyH_take (i := 12) (oi := { dst := some 15, op := Op.binOp BinOp.add 9 (Operand.tmp 11) (Operand.tmp 14) 9, type := 9, pos := "entry.go:64", after := #[{ on := 8, ground := Ground.data }, { on := 11, ground := Ground.data }], guard := none }) (v := ?veli110) rfl (by kernel_rfl) (by kernel_rfl) (by kernel_rfl) (fun _ _ _ h => h) (Or.inl ⟨by rfl, ?yeli110⟩) hk ?reli110
  case yeli110 => (intro w hSw; (try dsimp only at hSw); go_simp; first | done | with_reducible rfl)
  simp only [Act.put, List.setIfInBounds_toArray, List.set_cons_zero, List.set_cons_succ]
  refine wpAnyH_take (i := 13) (oi := { dst := some 2, op := Op.assign (Operand.tmp 15), type := 9, pos := "entry.go:64", after := #[{ on := 12, ground := Ground.data }, { on := 11, ground := Ground.chain }, { on := 0, ground := Ground.phase }, { on := 1, ground := Ground.phase }, { on := 2, ground := Ground.phase }, { on := 3, ground := Ground.phase }, { on := 4, ground := Ground.phase }, { on := 5, ground := Ground.phase }, { on := 6, ground := Ground.phase }, { on := 7, ground := Ground.phase }, { on := 8, ground := Ground.phase }, { on := 9, ground := Ground.phase }, { on := 10, ground := Ground.phase }, { on := 11, ground := Ground.phase }, { on := 12, ground := Ground.phase }], guard := none }) (v := ?veli111) rfl (by kernel_rfl) (by kernel_rfl) (by kernel_rfl) (fun _ _ _ h => h) (Or.inl ⟨by rfl, ?yeli111⟩) hk ?reli111
  case yeli111 => (intro w hSw; (try dsimp only at hSw); go_simp; first | done | with_reducible rfl)
  simp only [Act.put, List.setIfInBounds_toArray, List.set_cons_zero, List.set_cons_succ]
  refine wpAnyH_done (by decide +kernel) ?_ _
  have HBF := Bx.mk hk.low
  clear hk HQQ
  go_wp2_with fail
  go_ret
  exact ⟨by rw [HF.out]; rfl, HBF.out⟩
end Go.Proofs.YtlodbkjjkhpbaaaDoor
