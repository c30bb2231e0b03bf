/- Small calls of the law itself: text, keep, few. -/
import Derived.Test.YtigaciflbgbolaaDoIn10
import Derived.Test.YtigaciflbgbolaaLeast
import Derived.Test.YtigaciflbgbolaaAppZeros
import Derived.Test.YtigaciflbgbolaaSame
namespace Go.Proofs.Ytigaciflbgbolaa
open Go.RowKit
set_option linter.unusedVariables false

set_option maxRecDepth 100000 in
theorem step_app_zeros {ops : Array Oper} {o : Oper} {a : Act} {w : World} {K : Act → World → Prop} {Q : Exit → Act → World → Prop} {E : Prop} (hgd : o.guard = none) (s x : Operand)
    (ho : o.op = .call { callee := .builtin .append, args := #[s, x], argTypes := #[38, 3] })
    (base n k : Nat) (v : Value) (l : List Int) (hs : a.eval s = v) (hx : a.eval x = .int .i64 k) (hown : w.ownsRow base 5 1 v n (bv l)) (hbd : n + k ≤ 1099511627776) (hbase : base ≤ w.heap.size)
    (h : ∀ v' w', w'.ownsRow base 5 1 v' (n + k) (bv (l ++ List.replicate k 0)) → Below base w w' → K (a.put o.dst v') w') :
    if Region.wanted o (yielded ops a.tmps) = true then Oper.wp Try.prog o a w K Q else E := by
  have hw : Region.wanted o (yielded ops a.tmps) = true := by simp [Region.wanted, hgd]
  rw [if_pos hw]
  obtain ⟨v', w', hr, h1, h2⟩ := app_zeros w o.type base n k v l hown hbd hbase
  exact Lib.wp_append_run w s x 38 3 ho v (.int .i64 k) hs hx v' w' hr (h v' w' h1 h2)
/-- a call's text -/
def txt (k : DoM) : List Int := k.b.take 600 ++ List.replicate (leastV k.long 0 17000).toNat 0
set_option maxRecDepth 100000 in
theorem txt_len (k : DoM) : (txt k).length ≤ 17600 := by
  have := least_bd k.long 0 17000 (by decide)
  unfold txt; rw [List.length_append, List.length_take, List.length_replicate]; omega
set_option maxRecDepth 100000 in
theorem txt_byt {k : DoM} (h : Byt k.b) : Byt (txt k) := (h.take 600).append (fun c hc => by rw [List.eq_of_mem_replicate hc]; decide)
set_option maxRecDepth 100000 in
set_option maxHeartbeats 1000000 in
theorem text_any (k : DoM) (a2 : Option Addr) (l2 c2 : Nat) (a3 : Option Addr) (l3 c3 : Nat) (w : World) (h : DoV w k a2 l2 c2 a3 l3 c3) :
    Calls Try.prog 16 #[.agg #[.int .i64 k.kind, .int .i64 k.n, .int .i64 k.long, .slice a2 l2 c2, .slice a3 l3 c3]] w fun e w' => ∃ v, e = .returned v ∧ w'.ownsRow w.heap.size 5 1 v (txt k).length (bv (txt k)) ∧ Below w.heap.size w w' := by
  have HBT : Bx (Bts w a2 l2 c2 k.b) := ⟨h.b⟩
  have hbd := least_bd k.long 0 17000 (by decide)
  obtain ⟨Z, hZ⟩ : ∃ Z : Nat, leastV k.long 0 17000 = (Z : Int) := ⟨(leastV k.long 0 17000).toNat, by omega⟩
  have hZb : Z ≤ 17000 := by omega
  have HZ : Bx (leastV k.long 0 17000 = (Z : Int)) := ⟨hZ⟩
  have HTX : Bx (txt k = k.b.take 600 ++ List.replicate Z 0) := ⟨by unfold txt; rw [hZ]; rfl⟩
  clear h hbd hZ
  go_enter Try.func16, Try.ntmps16
  go_wp2_with fail
  have hbA : Below w.heap.size w (w.alloc (.cells #[.int .i64 k.kind, .int .i64 k.n, .int .i64 k.long, .slice a2 l2 c2, .slice a3 l3 c3] 41)) := (Below.refl _ _).alloc (Nat.le_refl _) _
  have hrow := heap_alloc_new w (.cells #[.int .i64 k.kind, .int .i64 k.n, .int .i64 k.long, .slice a2 l2 c2, .slice a3 l3 c3] 41)
  have hsz : (w.alloc (.cells #[.int .i64 k.kind, .int .i64 k.n, .int .i64 k.long, .slice a2 l2 c2, .slice a3 l3 c3] 41)).heap.size = w.heap.size + 1 := by simp
  obtain ⟨G, hG⟩ : ∃ G, G = w.heap.size := ⟨_, rfl⟩
  have HGW : Hid (G = w.heap.size) := hG
  generalize hwb : w.alloc (.cells #[.int .i64 k.kind, .int .i64 k.n, .int .i64 k.long, .slice a2 l2 c2, .slice a3 l3 c3] 41) = wb at hbA hrow hsz ⊢
  rw [← hG] at hrow ⊢
  have HB : Bx (Bts wb.drew a2 l2 c2 k.b) := ⟨(HBT.out.below hbA).drewN 1⟩
  have HLOW : Bx (Below w.heap.size w wb.drew) := ⟨hbA.drew⟩
  have hk : wb.drew.cell? ⟨G, 3, none⟩ = some (.slice a2 l2 c2) ∧ wb.drew.cell? ⟨G, 2, none⟩ = some (.int .i64 k.long) := ⟨cell_of_row wb G 3 _ _ (0, 0) hrow, cell_of_row wb G 2 _ _ (0, 0) hrow⟩
  have hgl : G < wb.drew.heap.size := by show G < wb.heap.size; omega
  clear hwb hsz hrow hbA hG HBT
  refine wp_region_held_drew (S := fun W => W.cell? ⟨G, 3, none⟩ = some (.slice a2 l2 c2) ∧ W.cell? ⟨G, 2, none⟩ = some (.int .i64 k.long)) (by kernel_rfl) hk (fun _ => ?_)
  generalize wb.drew = wd at hk HB HLOW hgl ⊢
  refine wpAnyH_take (i := 0) (oi := { dst := some 3, op := Op.fieldAddr 41 (Operand.tmp 1) 3, type := 0, pos := "law.go:24", after := #[], guard := none }) (v := ?vtxt11) rfl (by kernel_rfl) (by kernel_rfl) (by kernel_rfl) (fun _ _ _ h => h) (Or.inl ⟨by rfl, ?ytxt11⟩) hk ?rtxt11
  case ytxt11 => (intro w hSw; (try dsimp only at hSw); go_simp; first | done | with_reducible rfl)
  simp only [Act.put, List.setIfInBounds_toArray, List.set_cons_zero, List.set_cons_succ]
  refine wpAnyH_take (i := 1) (oi := { dst := some 4, op := Op.load 38 (Operand.tmp 3), type := 38, pos := "law.go:24", after := #[{ on := 0, ground := Ground.data }], guard := none }) (v := ?vtxt12) rfl (by kernel_rfl) (by kernel_rfl) (by kernel_rfl) (fun _ _ _ h => h) (Or.inl ⟨by rfl, ?ytxt12⟩) hk ?rtxt12
  case ytxt12 => (intro w hSw; have hcw := hSw.1; clear hSw; go_simp; first | done | with_reducible rfl)
  simp only [Act.put, List.setIfInBounds_toArray, List.set_cons_zero, List.set_cons_succ]
  refine wpAnyH_take (i := 4) (oi := { dst := some 7, op := Op.fieldAddr 41 (Operand.tmp 1) 2, type := 0, pos := "law.go:24", after := #[], guard := none }) (v := ?vtxt13) rfl (by kernel_rfl) (by kernel_rfl) (by kernel_rfl) (fun _ _ _ h => h) (Or.inl ⟨by rfl, ?ytxt13⟩) hk ?rtxt13
  case ytxt13 => (intro w hSw; (try dsimp only at hSw); go_simp; first | done | with_reducible rfl)
  simp only [Act.put, List.setIfInBounds_toArray, List.set_cons_zero, List.set_cons_succ]
  refine wpAnyH_take (i := 5) (oi := { dst := some 8, op := Op.load 3 (Operand.tmp 7), type := 3, pos := "law.go:24", after := #[{ on := 4, ground := Ground.data }], guard := none }) (v := ?vtxt14) rfl (by kernel_rfl) (by kernel_rfl) (by kernel_rfl) (fun _ _ _ h => h) (Or.inl ⟨by rfl, ?ytxt14⟩) hk ?rtxt14
  case ytxt14 => (intro w hSw; have hcw := hSw.2; clear hSw; go_simp; first | done | with_reducible rfl)
  simp only [Act.put, List.setIfInBounds_toArray, List.set_cons_zero, List.set_cons_succ]
  refine wpAnyH_ready (rs := [2]) (by decide +kernel) (by simp) ?_
  refine AllReadyH.cons (o := { dst := some 5, op := Op.call { callee := Callee.value (Operand.func 21), args := #[Operand.tmp 4, Operand.const (Value.int IntKind.i64 600)], argTypes := #[38, 3] }, type := 38, pos := "law.go:24", after := #[{ on := 1, ground := Ground.data }], guard := none }) rfl (fun K hK => ?_) AllReadyH.nil
  go_simp
  refine (cut_any a2 l2 c2 600 _ _ HB.out (by decide)).mono ?_
  rintro e1 w8 ⟨⟨m, rfl, hm⟩, rfl⟩
  have hm6 : m ≤ 600 := by have := hm.len_eq; rw [List.length_take] at this; omega
  refine hK.out _ _ hk (fun _ => ?_)
  clear hK K
  try simp only [Act.put, List.setIfInBounds_toArray, List.set_cons_zero, List.set_cons_succ]
  refine wpAnyH_ready (rs := [3]) (by decide +kernel) (by simp) ?_
  refine AllReadyH.cons (o := { dst := some 6, op := Op.call { callee := Callee.value (Operand.func 54), args := #[Operand.tmp 5], argTypes := #[38] }, type := 38, pos := "law.go:24", after := #[{ on := 2, ground := Ground.data }, { on := 2, ground := Ground.chain }], guard := none }) rfl (fun K hK => ?_) AllReadyH.nil
  go_simp
  refine (copy_any a2 m c2 _ _ hm (by omega)).mono ?_
  rintro e1 w8 ⟨v8, rfl, hown8, hb8⟩
  replace hk : w8.cell? ⟨G, 3, none⟩ = some (.slice a2 l2 c2) ∧ w8.cell? ⟨G, 2, none⟩ = some (.int .i64 k.long) := ⟨(hb8.cell hgl).trans hk.1, (hb8.cell hgl).trans hk.2⟩
  replace HLOW : Bx (Below w.heap.size w w8) := ⟨bstep HLOW.out hb8⟩
  have hown9 := owns_base hown8 (base' := G + 1) hgl
  have hs8 : G + 1 ≤ w8.heap.size := Nat.le_trans hgl hb8.size
  clear HB hown8 hb8
  refine hK.out _ _ hk (fun _ => ?_)
  clear hK K
  try simp only [Act.put, List.setIfInBounds_toArray, List.set_cons_zero, List.set_cons_succ]
  refine wpAnyH_ready (rs := [6]) (by decide +kernel) (by simp) ?_
  refine AllReadyH.cons (o := { dst := some 9, op := Op.call { callee := Callee.value (Operand.func 9), args := #[Operand.tmp 8, Operand.const (Value.int IntKind.i64 0), Operand.const (Value.int IntKind.i64 17000)], argTypes := #[3, 3, 3] }, type := 3, pos := "law.go:24", after := #[{ on := 5, ground := Ground.data }, { on := 3, ground := Ground.chain }], guard := none }) rfl (fun K hK => ?_) AllReadyH.nil
  go_simp
  refine (least_any _ _ _ _).mono ?_
  rintro e1 w9 ⟨rfl, rfl⟩
  rw [HZ.out]
  refine hK.out _ _ hk (fun _ => ?_)
  clear hK K
  try simp only [Act.put, List.setIfInBounds_toArray, List.set_cons_zero, List.set_cons_succ]
  refine wpAnyH_ready (rs := [7]) (by decide +kernel) (by simp) ?_
  refine AllReadyH.cons (o := { dst := some 10, op := Op.call { callee := Callee.builtin Builtin.append, args := #[Operand.tmp 6, Operand.tmp 9], argTypes := #[38, 3] }, type := 38, pos := "law.go:24", after := #[{ on := 3, ground := Ground.data }, { on := 6, ground := Ground.data }, { on := 6, ground := Ground.chain }], guard := none }) rfl (fun K hK => ?_) AllReadyH.nil
  refine step_app_zeros rfl (.tmp 6) (.tmp 9) rfl (G + 1) m Z _ (k.b.take 600) rfl rfl hown9 (by omega) hs8 ?_
  intro v9 w9 hown10 hb10
  replace HLOW : Bx (Below w.heap.size w w9) := ⟨HLOW.out.trans (hb10.mono (by have := HGW.out; omega))⟩
  replace hk : w9.cell? ⟨G, 3, none⟩ = some (.slice a2 l2 c2) ∧ w9.cell? ⟨G, 2, none⟩ = some (.int .i64 k.long) := ⟨(hb10.cell (Nat.lt_succ_self G)).trans hk.1, (hb10.cell (Nat.lt_succ_self G)).trans hk.2⟩
  clear hown9 hb10
  refine hK.out _ _ hk (fun _ => ?_)
  clear hK K
  try simp only [Act.put, List.setIfInBounds_toArray, List.set_cons_zero, List.set_cons_succ]
  refine wpAnyH_take (i := 8) (oi := { dst := some 2, op := Op.assign (Operand.tmp 10), type := 38, pos := "law.go:24", after := #[{ on := 7, ground := Ground.data }, { on := 7, ground := Ground.chain }, { on := 0, ground := Ground.phase }, { on := 1, ground := Ground.phase }, { on := 2, ground := Ground.phase }, { on := 3, ground := Ground.phase }, { on := 4, ground := Ground.phase }, { on := 5, ground := Ground.phase }, { on := 6, ground := Ground.phase }, { on := 7, ground := Ground.phase }], guard := none }) (v := ?vtxt15) rfl (by kernel_rfl) (by kernel_rfl) (by kernel_rfl) (fun _ _ _ h => h) (Or.inl ⟨by rfl, ?ytxt15⟩) hk ?rtxt15
  case ytxt15 => (intro w hSw; (try dsimp only at hSw); go_simp; first | done | with_reducible rfl)
  simp only [Act.put, List.setIfInBounds_toArray, List.set_cons_zero, List.set_cons_succ]
  refine wpAnyH_done (by decide +kernel) ?_ _
  clear hk
  have hb600 : (k.b.take 600).length = m := hm.len_eq
  have HOW : Bx (w9.ownsRow w.heap.size 5 1 v9 (txt k).length (bv (txt k))) := ⟨by
    rw [HTX.out, List.length_append, List.length_replicate, hb600]
    exact owns_base hown10 (by have := HGW.out; omega)⟩
  clear hown10 hm hb600
  go_wp2
  go_ret
  exact ⟨_, rfl, HOW.out, HLOW.out⟩
set_option maxRecDepth 100000 in
theorem Bls.take {w : World} {ao : Option Addr} {len cap : Nat} {K : List Bool} (h : Bls w ao len cap K) (k : Nat) (hk : k ≤ len) : Bls w ao k cap (K.take k) :=
  ⟨by rw [List.length_take, h.len_eq]; omega, by have := h.le_cap; omega, h.cap_le, fun hp => by
    obtain ⟨b, off, e, hlt, hc⟩ := h.spot (by omega)
    refine ⟨b, off, e, hlt, fun i hi => ?_⟩
    rw [show (K.take k).getD i false = K.getD i false from by rw [List.getD_eq_getElem?_getD, List.getElem?_take, if_pos hi, ← List.getD_eq_getElem?_getD]]
    exact hc i (by omega)⟩
set_option maxRecDepth 100000 in
set_option maxHeartbeats 400000 in
theorem keep_any (v0 v1 v2 v3 : Value) (a : Option Addr) (len cap : Nat) (K : List Bool) (w : World) (h : Bls w a len cap K) :
    Calls Try.prog 26 #[.agg #[v0, v1, v2, v3, .slice a len cap]] w fun e w' => (∃ m, e = .returned (.slice a m cap) ∧ m ≤ 400 ∧ Bls w' a m cap (K.take 400)) ∧ Below w.heap.size w w' := by
  have hcc := h.le_cap
  have hcm := h.cap_le
  have hl := h.len_eq
  unfold maxLen at hcm
  have hbA : Below w.heap.size w (w.alloc (.cells #[v0, v1, v2, v3, .slice a len cap] 41)) := (Below.refl _ _).alloc (Nat.le_refl _) _
  have HBA : Bx _ := ⟨hbA⟩
  by_cases hlt : (len : Int) > 400
  · have HT : Bx _ := ⟨(h.take 400 (by omega)).below hbA⟩
    obtain ⟨b, off, rfl, _, _⟩ := h.spot (by omega)
    clear h hl hbA
    go_enter Try.func26, Try.ntmps26
    go_wp2
    go_ret
    exact ⟨⟨400, rfl, Nat.le_refl _, HT.out⟩, HBA.out⟩
  · have HT : Hid (K.take 400 = K) := List.take_of_length_le (by omega)
    have hm : len ≤ 400 := by omega
    have HB : Bx _ := ⟨h.below hbA⟩
    clear hl hbA h
    go_enter Try.func26, Try.ntmps26
    go_wp2
    go_ret
    exact ⟨⟨len, rfl, hm, by rw [HT.out]; exact HB.out⟩, HBA.out⟩
set_option maxRecDepth 100000 in
theorem dos_size (w : World) : (Go.sizeOf (Try.prog.elem 22)).run Try.prog w = .ok 5 w := by kernel_rfl
set_option maxRecDepth 100000 in
theorem dos_under : Try.prog.underlying 22 = some (.slice (Try.prog.elem 22)) := by kernel_rfl
set_option maxRecDepth 100000 in
theorem dos_cut (b o len cap k : Nat) (hk : k ≤ cap) (w : World) : (Instr.sliceAt 22 (.slice (some ⟨b, o, none⟩) len cap) none (some (.int .i64 (k : Int))) none).run Try.prog w = .ok (.slice (some ⟨b, o, none⟩) k cap) w := by
  rw [run_sliceAt_slice w _ _ _ _ _ dos_under, run_slice_h w _ _ len cap dos_under .i64 (k : Int) (by omega) (by omega), dos_size]
  simp [sliced, Addr.add_lit]
set_option maxRecDepth 100000 in
set_option maxHeartbeats 1000000 in
theorem few_any (a : Option Addr) (len cap : Nat) (L : List DoM) (w0 w : World) (h0 : Dos w0 a len cap L) (hb0 : Below w0.heap.size w0 w) :
    Calls Try.prog 14 #[.slice a len cap] w fun e w' => (∃ m, e = .returned (.slice a m cap) ∧ m ≤ 40 ∧ ∃ M, Dos w0 a m cap M) ∧ Below w.heap.size w w' := by
  have h := h0.below hb0
  have hcc := h.le_cap
  have hcm := h.cap_le
  unfold maxLen at hcm
  have HD : Bx (Dos w a len cap L) := ⟨h⟩
  have HD0 : Bx (Dos w0 a len cap L) := ⟨h0⟩
  clear h h0 hb0
  go_enter Try.func14, Try.ntmps14
  go_wp2
  go_loopw [3, 4] (fun v i wr => ∃ k t : Nat, k ≤ len ∧ k ≤ 40 ∧ t ≤ 60000 ∧ i = .int .i64 (k : Int) ∧ v = .int .i64 (t : Int) ∧ Below w.heap.size w wr) (fun _ i _ => 40 - (intOf i).toNat)
  case atStart => exact ⟨0, 0, Nat.zero_le _, Nat.zero_le _, Nat.zero_le _, rfl, rfl, Below.refl _ _⟩
  case round =>
    obtain ⟨k, t, hk, hk4, ht, rfl, rfl, hlow⟩ := hrel
    by_cases hlt : k < len ∧ k < 40
    · obtain ⟨hl1, hl2⟩ := hlt
      have g1 : (k : Int) < (len : Int) := by omega
      have g2 : (k : Int) < 40 := by omega
      obtain ⟨b, off, a2, l2, c2, a3, l3, c3, rfl, q0, q1, q2, q3, q4, hdv, _⟩ := HD.out.at hlow k hl1
      generalize L.getD k doZ = d at q0 q1 q2 hdv
      have hdv' := hdv.below hlow
      go_wp2_with fail
      refine (text_any d a2 l2 c2 a3 l3 c3 _ hdv').mono ?_
      rintro e w3 ⟨v3, rfl, hown3, hb3⟩
      obtain ⟨m, hm⟩ : ∃ m, m = (txt d).length := ⟨_, rfl⟩
      have hm2 : m ≤ 17600 := by rw [hm]; exact txt_len d
      rw [← hm] at hown3
      obtain ⟨a9, c9, rfl⟩ := opn_form hown3
      have HLOW : Bx (Below w.heap.size w w3) := ⟨bstep hlow hb3⟩
      have HDT : Bx (Dos w0 (some ⟨b, off, none⟩) k cap (L.take k)) := ⟨HD0.out.take k (by omega)⟩
      have hcut := dos_cut b off len cap k (by omega)
      clear hm hown3 hb3 hdv hdv' q0 q1 q2 q3 q4 hlow
      by_cases hbg : 60000 < t + m
      · have hbI : (60000 : Int) < (t : Int) + (m : Int) := by omega
        go_wp2
        go_ret
        exact ⟨⟨k, rfl, hk4, _, HDT.out⟩, HLOW.out⟩
      · have hbI : ¬ (60000 : Int) < (t : Int) + (m : Int) := by omega
        go_wp2
        go_roundw
        case rel => exact ⟨k + 1, t + m, by omega, by omega, by omega, by go_num, by go_num, HLOW.out⟩
        case measure => simp [intOf]; omega
    · have HLOW : Bx _ := ⟨hlow⟩
      by_cases hgt : 40 < len
      · have hk40 : k = 40 := by omega
        subst hk40
        have HDT : Bx (Dos w0 a 40 cap (L.take 40)) := ⟨HD0.out.take 40 (by omega)⟩
        obtain ⟨b, off, rfl, _, _⟩ := HD.out.spot (by omega)
        have hcut := dos_cut b off len cap 40 (by omega)
        have g1 : (40 : Int) < (len : Int) := by omega
        clear hlow hlt
        go_wp2
        go_ret
        exact ⟨⟨40, rfl, Nat.le_refl _, _, HDT.out⟩, HLOW.out⟩
      · have hkl : k = len := by omega
        have g1 : ¬ (k : Int) < (len : Int) := by omega
        have g2 : ¬ (40 : Int) < (len : Int) := by omega
        have HDT : Bx (Dos w0 a len cap L) := ⟨HD0.out⟩
        have hl40 : len ≤ 40 := by omega
        clear hlow hlt hkl
        go_wp2
        go_ret
        exact ⟨⟨len, rfl, hl40, _, HDT.out⟩, HLOW.out⟩
end Go.Proofs.Ytigaciflbgbolaa
