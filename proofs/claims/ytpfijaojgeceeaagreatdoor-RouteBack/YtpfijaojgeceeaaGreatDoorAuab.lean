/- The request by which something is asked: the program's. Whether two asks are alike; the request that asks: the program's Print. -/
import Derived.Test.YtpfijaojgeceeaaGreatDoorAuac
import Derived.Test.YtpfijaojgeceeaaGreatDoorRtWrt
import Derived.Test.YtpfijaojgeceeaaGreatDoorAuao
import Derived.Test.YtpfijaojgeceeaaGreatDoorAuar
import Derived.Test.YtpfijaojgeceeaaGreatDoorAuas
namespace Go.Proofs.YtpfijaojgeceeaaGreatDoor
open Go.RowKit
set_option linter.unusedVariables false

set_option maxRecDepth 100000 in
theorem rq_zero : (Tryz.prog.info? 28).map (fun i => i.zero.map (·.cells.size)) = some (some 4) := by kernel_rfl
/-- what is answered -/
def WrP (x : WX) (w : World) (e : Ending) (w' : World) : Prop := ∃ ab cap, e = .returned (reqV x (.slice ab x.b.length cap)) ∧ w'.ownsRow w.heap.size 5 1 (.slice ab x.b.length cap) x.b.length (bv x.b) ∧ Byt x.b ∧ Below w.heap.size w w'
set_option maxRecDepth 100000 in
theorem rt_pts (k : Nat) (hk : k < 10) : 2 ≤ (ptsR (rtL.getD k rt0)).length ∧ (∀ p ∈ ptsR (rtL.getD k rt0), p.size ≤ 20) ∧ -100 ≤ (rtL.getD k rt0).k ∧ (rtL.getD k rt0).k ≤ 100 := by
  match k, hk with
  | 0, _ | 1, _ | 2, _ | 3, _ | 4, _ | 5, _ | 6, _ | 7, _ | 8, _ | 9, _ => exact ⟨by decide +kernel, by decide +kernel, by decide +kernel, by decide +kernel⟩
set_option maxRecDepth 100000 in
theorem wrt_none {a : As} (h : rtL.find? (fun r => decide (r.k = a.k)) = none) : wrtV a = wx0 := by unfold wrtV; rw [h]
set_option maxRecDepth 100000 in
theorem find_no {r : Rt} {R : List Rt} {k : Int} (h : r.k ≠ k) : (r :: R).find? (fun r => decide (r.k = k)) = R.find? (fun r => decide (r.k = k)) := by rw [List.find?_cons, decide_eq_false h]
set_option maxRecDepth 100000 in
theorem find_yes {r : Rt} {R : List Rt} {k : Int} (h : r.k = k) : (r :: R).find? (fun r => decide (r.k = k)) = some r := by rw [List.find?_cons, decide_eq_true h]
set_option maxRecDepth 100000 in
set_option maxHeartbeats 8000000 in
set_option maxRecDepth 100000 in
theorem written_any (a : As) (ab : Option Addr) (n c : Nat) (w : World) (hb : Bts w ab n c a.b) (hA : V64 a.A) (hB : V64 a.B) (hnm : a.nm.size ≤ 1000) (hsp : a.sp.size ≤ 1000) (hn : n ≤ 1000000) (hE : RtE w) :
    Calls Tryz.prog 15 #[.agg (askV a ab n c)] w (WrP (wrtV a) w) := by
  obtain ⟨hROW, hRZ, hsz⟩ := two_new18 w (.cells (askV a ab n c) 24) (.cells reqZ 28)
  have hB1 : Below w.heap.size w ((w.alloc (.cells (askV a ab n c) 24)).alloc (.cells reqZ 28)) := ((Below.refl _ _).alloc (Nat.le_refl _) _).alloc (by simp) _
  have hW1 : w.heap.size + 1 < ((w.alloc (.cells (askV a ab n c) 24)).alloc (.cells reqZ 28)).heap.size := (Array.getElem?_eq_some_iff.1 hRZ).1
  have HTG : Bx (∀ (r : Rt), r.f.size ≤ 20 → (ptsR r).length ≤ 4 → 2 ≤ (ptsR r).length → (∀ p ∈ ptsR r, p.size ≤ 20) → ∀ W, Tens W → Calls Tryz.prog 26 #[.agg #[.int .i64 r.k, .string r.m, .string r.f, .bool r.h], .agg #[.int .i64 a.k, .string a.nm, .string a.sp, .slice ab n c, .int .i64 a.A, .int .i64 a.B]] W fun e w' => e = .returned (.string (tgtR r a)) ∧ Below W.heap.size W w') := ⟨fun r h1 h2 h3 h4 W hW => target_any r a ab n c W h1 h2 h3 h4 hA hB hnm hsp hW⟩
  have HALL : Bx (∀ W, Below ((w.alloc (.cells (askV a ab n c) 24)).alloc (.cells reqZ 28)).heap.size ((w.alloc (.cells (askV a ab n c) 24)).alloc (.cells reqZ 28)) W → RtE W ∧ W.heap[w.heap.size]? = some (.cells (askV a ab n c) 24 (0, 0)) ∧ W.heap[w.heap.size + 1]? = some (.cells reqZ 28 (0, 0)) ∧ Below w.heap.size w W ∧ Bts W ab n c a.b) := ⟨fun W h => by
    have h2 := bstep hB1 h
    exact ⟨hE.below h2, (h.block _ (by omega)).trans hROW, (h.block _ hW1).trans hRZ, h2, hb.below h2⟩⟩
  have HRT := Bx.mk (hE.below hB1).r
  have HXN := Bx.mk hn
  have HW1 := Bx.mk hW1
  clear hROW hRZ hsz hB1 hW1 hE hb hA hB hnm hsp hn
  generalize hw1 : (w.alloc (.cells (askV a ab n c) 24)).alloc (.cells reqZ 28) = W1 at *
  unfold reqZ askV at hw1
  unfold askV
  go_enter Tryz.func15, Tryz.ntmps15
  go_upto_region 1 with fail
  clear hw1
  go_wp2_with (refine wpList_load_mid rfl 51 (.global 0) rfl 0 0 rfl rtC _ HRT.out.rng Tryz.underlying51 rfl rtb_info ?_)
  have HIX : Bx (∀ (k : Nat), k < 10 → ∀ W : World, (Instr.index 51 (.agg rtC.toArray) (.int .i64 (k : Int))).run Tryz.prog W = .ok (.agg #[.int .i64 (rtL.getD k rt0).k, .string (rtL.getD k rt0).m, .string (rtL.getD k rt0).f, .bool (rtL.getD k rt0).h]) W) := ⟨fun k hk W => idx_rt k hk W⟩
  generalize rtC.toArray = RC at *
  go_loopw [7] (fun i wr => ∃ k : Nat, k ≤ 10 ∧ i = .int .i64 k ∧ Bx (Below W1.heap.size W1 wr) ∧ Bx ((rtL.drop k).find? (fun r => decide (r.k = a.k)) = rtL.find? (fun r => decide (r.k = a.k)))) (fun i _ => 10 - (intOf i).toNat)
  case atStart => exact ⟨0, by omega, rfl, ⟨Below.refl _ _⟩, ⟨rfl⟩⟩
  case round =>
    obtain ⟨k, hk, rfl, HB, HN⟩ := hrel
    by_cases hlt : k < 10
    · have hkI : (k : Int) < 10 := by omega
      have hix := HIX.out k hlt wr
      have hst := rt_drop k hlt
      obtain ⟨hsm, hpl⟩ := rt_small k hlt
      obtain ⟨hp2, hps, _, _⟩ := rt_pts k hlt
      have HST : Bx ((rtL.getD k rt0 :: rtL.drop (k + 1)).find? (fun r => decide (r.k = a.k)) = rtL.find? (fun r => decide (r.k = a.k))) := ⟨by rw [← hst]; exact HN.out⟩
      have HTA : Bx (∀ W, Tens W → Calls Tryz.prog 26 #[.agg #[.int .i64 (rtL.getD k rt0).k, .string (rtL.getD k rt0).m, .string (rtL.getD k rt0).f, .bool (rtL.getD k rt0).h], .agg #[.int .i64 a.k, .string a.nm, .string a.sp, .slice ab n c, .int .i64 a.A, .int .i64 a.B]] W fun e w' => e = .returned (.string (tgtR (rtL.getD k rt0) a)) ∧ Below W.heap.size W w') := ⟨fun W hW => HTG.out _ hsm hpl hp2 hps W hW⟩
      have HWN : Bx ((rtL.getD k rt0).k = a.k → wrtV a = ⟨(rtL.getD k rt0).m, tgtR (rtL.getD k rt0) a, ⟨#[]⟩, if (rtL.getD k rt0).h = true then a.b else []⟩) := ⟨fun h => wrt_find (by rw [← HST.out, find_yes h])⟩
      have HNX : Bx ((rtL.getD k rt0).k ≠ a.k → (rtL.drop (k + 1)).find? (fun r => decide (r.k = a.k)) = rtL.find? (fun r => decide (r.k = a.k))) := ⟨fun h => by rw [← HST.out, find_no h]⟩
      generalize tgtR (rtL.getD k rt0) a = tg at *
      generalize rtL.getD k rt0 = r at *
      generalize r.k = rk at *
      generalize r.m = rm at *
      generalize r.f = rf at *
      generalize r.h = rh at *
      have hR3 := heap_alloc_new wr (.cells #[.int .i64 rk, .string rm, .string rf, .bool rh] 50)
      have HB3 : Bx (Below wr.heap.size wr (wr.alloc (.cells #[.int .i64 rk, .string rm, .string rf, .bool rh] 50))) := ⟨(Below.refl _ _).alloc (Nat.le_refl _) _⟩
      have HLT := Bx.mk hlt
      clear hst hsm hpl hp2 hps hlt HIX HN HST
      go_upto_region 4 with fail
      clear hix
      generalize hw3 : wr.alloc (.cells #[.int .i64 rk, .string rm, .string rf, .bool rh] 50) = w3 at *
      clear hw3
      have HB3c : Bx (Below W1.heap.size W1 w3) := ⟨bstep HB.out HB3.out⟩
      obtain ⟨hE3, hA3, hZ3, hB3w, hX3⟩ := HALL.out w3 HB3c.out
      have m0 : w3.cell? ⟨wr.heap.size, 0, none⟩ = some (.int .i64 rk) := by rw [cell_of_row w3 _ 0 _ _ (0, 0) hR3]; rfl
      have a0 : w3.cell? ⟨w.heap.size, 0, none⟩ = some (.int .i64 a.k) := by rw [cell_of_row w3 _ 0 _ _ (0, 0) hA3]; rfl
      by_cases hkk : rk = a.k
      · have g1 : (rk != a.k) = false := by simp [hkk]
        have HWX := Bx.mk (HWN.out hkk)
        have HTE : Bx (∀ W, Below w3.heap.size w3 W → Tens W) := ⟨fun W h => hE3.t.below h⟩
        have HL0 : Bx (wr.heap.size < w3.heap.size ∧ w.heap.size < w3.heap.size) := ⟨(Array.getElem?_eq_some_iff.1 hR3).1, (Array.getElem?_eq_some_iff.1 hA3).1⟩
        have HM0 := Bx.mk m0
        have HM1 : Bx (w3.cell? ⟨wr.heap.size, 1, none⟩ = some (.string rm)) := ⟨by rw [cell_of_row w3 _ 1 _ _ (0, 0) hR3]; rfl⟩
        have HM2 : Bx (w3.cell? ⟨wr.heap.size, 2, none⟩ = some (.string rf)) := ⟨by rw [cell_of_row w3 _ 2 _ _ (0, 0) hR3]; rfl⟩
        have HM3 : Bx (w3.cell? ⟨wr.heap.size, 3, none⟩ = some (.bool rh)) := ⟨by rw [cell_of_row w3 _ 3 _ _ (0, 0) hR3]; rfl⟩
        have HA0 := Bx.mk a0
        have HA1 : Bx (w3.cell? ⟨w.heap.size, 1, none⟩ = some (.string a.nm)) := ⟨by rw [cell_of_row w3 _ 1 _ _ (0, 0) hA3]; rfl⟩
        have HA2 : Bx (w3.cell? ⟨w.heap.size, 2, none⟩ = some (.string a.sp)) := ⟨by rw [cell_of_row w3 _ 2 _ _ (0, 0) hA3]; rfl⟩
        have HA3 : Bx (w3.cell? ⟨w.heap.size, 3, none⟩ = some (.slice ab n c)) := ⟨by rw [cell_of_row w3 _ 3 _ _ (0, 0) hA3]; rfl⟩
        have HA4 : Bx (w3.cell? ⟨w.heap.size, 4, none⟩ = some (.int .i64 a.A)) := ⟨by rw [cell_of_row w3 _ 4 _ _ (0, 0) hA3]; rfl⟩
        have HA5 : Bx (w3.cell? ⟨w.heap.size, 5, none⟩ = some (.int .i64 a.B)) := ⟨by rw [cell_of_row w3 _ 5 _ _ (0, 0) hA3]; rfl⟩
        clear hE3 hA3 hZ3 hB3w hX3 hR3 hkk HWN HNX HTG
        go_upto_region 5 with fail
        clear m0 a0 g1
        have hk : Below w3.heap.size w3 w3.drew := (Below.refl _ _).drew
        go_cut [5] from 15 to 20 (fun v wx => ∃ gz, v = .pointer (some ⟨gz, 0, none⟩) ∧ Bx (w3.heap.size ≤ gz) ∧ Bx (wx.heap[gz]? = some (.cells #[.string rm, .string tg, .string ⟨#[]⟩, .slice none 0 0] 28 (0, 0))) ∧ Bx (Below w3.heap.size w3 wx))
        case first =>
          refine wp_region_held_drew (S := fun W => Below w3.heap.size w3 W) (by kernel_rfl) hk (fun _ => ?_)
          generalize w3.drew = wk at hk ⊢
          refine wpAnyH_take (i := 0) (oi := { dst := some 15, op := Op.fieldAddr 50 (Operand.tmp 4) 1, type := 0, pos := "route.go:90", after := #[], guard := none }) (v := ?vwrt51) rfl (by kernel_rfl) (by kernel_rfl) (by kernel_rfl) (fun _ _ _ h => h) (Or.inl ⟨by rfl, ?ywrt51⟩) hk ?rwrt51
          case ywrt51 => (intro w hSw; (try dsimp only at hSw); go_simp; first | done | with_reducible rfl)
          simp only [Act.put, List.setIfInBounds_toArray, List.set_cons_zero, List.set_cons_succ]
          refine wpAnyH_take (i := 1) (oi := { dst := some 16, op := Op.load 9 (Operand.tmp 15), type := 9, pos := "route.go:90", after := #[{ on := 0, ground := Ground.data }], guard := none }) (v := ?vwrt52) rfl (by kernel_rfl) (by kernel_rfl) (by kernel_rfl) (fun _ _ _ h => h) (Or.inl ⟨by rfl, ?ywrt52⟩) hk ?rwrt52
          case ywrt52 => (intro w hSw; have hcw := (hSw.cell HL0.out.1).trans HM1.out; clear hSw; go_simp; first | done | with_reducible rfl)
          simp only [Act.put, List.setIfInBounds_toArray, List.set_cons_zero, List.set_cons_succ]
          refine wpAnyH_take (i := 2) (oi := { dst := some 17, op := Op.load 50 (Operand.tmp 4), type := 50, pos := "route.go:90", after := #[], guard := none }) (v := .agg #[.int .i64 rk, .string rm, .string rf, .bool rh]) rfl (by kernel_rfl) (by kernel_rfl) (by kernel_rfl) (fun _ _ _ h => h) (Or.inl ⟨by rfl, ?ywrt53⟩) hk ?rwrt53
          case ywrt53 => (intro w hSw; have q0 := (hSw.cell HL0.out.1).trans HM0.out; have q1 := (hSw.cell HL0.out.1).trans HM1.out; have q2 := (hSw.cell HL0.out.1).trans HM2.out; have q3 := (hSw.cell HL0.out.1).trans HM3.out; clear hSw; go_simp; first | done | with_reducible rfl)
          simp only [Act.put, List.setIfInBounds_toArray, List.set_cons_zero, List.set_cons_succ]
          refine wpAnyH_take (i := 3) (oi := { dst := some 18, op := Op.load 24 (Operand.tmp 1), type := 24, pos := "route.go:90", after := #[], guard := none }) (v := .agg #[.int .i64 a.k, .string a.nm, .string a.sp, .slice ab n c, .int .i64 a.A, .int .i64 a.B]) rfl (by kernel_rfl) (by kernel_rfl) (by kernel_rfl) (fun _ _ _ h => h) (Or.inl ⟨by rfl, ?ywrt54⟩) hk ?rwrt54
          case ywrt54 => (intro w hSw; have q0 := (hSw.cell HL0.out.2).trans HA0.out; have q1 := (hSw.cell HL0.out.2).trans HA1.out; have q2 := (hSw.cell HL0.out.2).trans HA2.out; have q3 := (hSw.cell HL0.out.2).trans HA3.out; have q4 := (hSw.cell HL0.out.2).trans HA4.out; have q5 := (hSw.cell HL0.out.2).trans HA5.out; clear hSw; go_simp; first | done | with_reducible rfl)
          simp only [Act.put, List.setIfInBounds_toArray, List.set_cons_zero, List.set_cons_succ]
          refine wpAnyH_ready (rs := [4, 6]) (by decide +kernel) (by simp) ?_
          refine (AllReadyH.cons (o := { dst := some 19, op := Op.call { callee := Callee.value (Operand.func 26), args := #[Operand.tmp 17, Operand.tmp 18], argTypes := #[50, 24] }, type := 9, pos := "route.go:90", after := #[{ on := 2, ground := Ground.data }, { on := 3, ground := Ground.data }], guard := none }) rfl (fun K hK => ?_) (AllReadyH.cons (o := { dst := some 5, op := Op.alloc 28, type := 0, pos := "route.go:90", after := #[], guard := none }) rfl (fun K hK => ?_) AllReadyH.nil))
          · go_simp
            refine (HTA.out _ (HTE.out _ hk)).mono ?_
            rintro e1 wk ⟨rfl, hb1⟩
            replace hk := bstep hk hb1
            try replace hz := hz.step hb1
            clear hb1
            refine hK.out _ _ hk (fun _ => ?_)
            clear hK K
            try simp only [Act.put, List.setIfInBounds_toArray, List.set_cons_zero, List.set_cons_succ]
            refine wpAnyH_take (i := 5) (oi := { dst := some 20, op := Op.build 28 #[(0, Operand.tmp 16), (1, Operand.tmp 19)], type := 28, pos := "route.go:90", after := #[{ on := 1, ground := Ground.data }, { on := 4, ground := Ground.data }], guard := none }) (v := ?vwrt55) rfl (by kernel_rfl) (by kernel_rfl) (by kernel_rfl) (fun _ _ _ h => h) (Or.inl ⟨by rfl, ?ywrt55⟩) hk ?rwrt55
            case ywrt55 => (intro w hSw; (try dsimp only at hSw); go_simp; first | done | with_reducible rfl)
            simp only [Act.put, List.setIfInBounds_toArray, List.set_cons_zero, List.set_cons_succ]
            refine wpAnyH_ready (rs := [6]) (by decide +kernel) (by simp) ?_
            refine AllReadyH.cons (o := { dst := some 5, op := Op.alloc 28, type := 0, pos := "route.go:90", after := #[], guard := none }) rfl (fun K hK => ?_) AllReadyH.nil
            rw [if_pos (by rfl)]
            refine wp_alloc_of 28 4 rfl rq_zero ?_
            intro cs hcs
            have hz := NV.new (T := 28) (N0 := w3.heap.size) (wr := wk) hk.size hcs
            have hbA : Below wk.heap.size wk (wk.alloc (.cells cs 28)) := (Below.refl _ _).alloc (Nat.le_refl _) _
            replace hk := bstep hk hbA
            clear hbA hcs
            generalize wk.heap.size = gz at hz ⊢
            generalize wk.alloc (.cells cs 28) = wk at hz hk ⊢
            simp only [Act.put, List.setIfInBounds_toArray, List.set_cons_zero, List.set_cons_succ]
            refine hK.out _ _ hk (fun _ => ?_)
            clear hK K
            try simp only [Act.put, List.setIfInBounds_toArray, List.set_cons_zero, List.set_cons_succ]
            refine wpAnyH_ready (rs := [7]) (by decide +kernel) (by simp) ?_
            refine AllReadyH.cons (o := { dst := none, op := Op.store 28 (Operand.tmp 5) (Operand.tmp 20), type := 0, pos := "route.go:90", after := #[{ on := 6, ground := Ground.data }, { on := 5, ground := Ground.data }, { on := 4, ground := Ground.chain }, { on := 0, ground := Ground.phase }, { on := 1, ground := Ground.phase }, { on := 2, ground := Ground.phase }, { on := 3, ground := Ground.phase }, { on := 4, ground := Ground.phase }, { on := 5, ground := Ground.phase }, { on := 6, ground := Ground.phase }], guard := none }) rfl (fun K hK => ?_) AllReadyH.nil
            rw [if_pos (by rfl)]
            refine wp_store_mid 28 (.tmp 5) (.tmp 20) rfl gz 0 #[.string rm, .string tg, .string ⟨#[]⟩, .slice none 0 0] rfl rfl ?htwrt57 req_info (req_one _ _ _ _ rfl) ?_
            case htwrt57 => exact hz.there rfl
            have hrz := hz.put (D := #[.string rm, .string tg, .string ⟨#[]⟩, .slice none 0 0]) rfl
            have hzge := hz.ge
            replace hk : Below w3.heap.size w3 (wk.setCells gz 0 #[.string rm, .string tg, .string ⟨#[]⟩, .slice none 0 0].toList) := below_setCells hk _ hzge _ 0
            clear hz
            generalize wk.setCells gz 0 #[.string rm, .string tg, .string ⟨#[]⟩, .slice none 0 0].toList = wk at hk hrz ⊢
            simp only [Act.put]
            refine hK.out _ _ hk (fun _ => ?_)
            clear hK K
            try simp only [Act.put, List.setIfInBounds_toArray, List.set_cons_zero, List.set_cons_succ]
            refine wpAnyH_done (by decide +kernel) ?_ _
            go_wp2_with fail
            go_meet
            case rel => exact ⟨gz, rfl, ⟨hzge⟩, ⟨hrz⟩, ⟨hk⟩⟩
          · rw [if_pos (by rfl)]
            refine wp_alloc_of 28 4 rfl rq_zero ?_
            intro cs hcs
            have hz := NV.new (T := 28) (N0 := w3.heap.size) (wr := wk) hk.size hcs
            have hbA : Below wk.heap.size wk (wk.alloc (.cells cs 28)) := (Below.refl _ _).alloc (Nat.le_refl _) _
            replace hk := bstep hk hbA
            clear hbA hcs
            generalize wk.heap.size = gz at hz ⊢
            generalize wk.alloc (.cells cs 28) = wk at hz hk ⊢
            simp only [Act.put, List.setIfInBounds_toArray, List.set_cons_zero, List.set_cons_succ]
            refine hK.out _ _ hk (fun _ => ?_)
            clear hK K
            try simp only [Act.put, List.setIfInBounds_toArray, List.set_cons_zero, List.set_cons_succ]
            refine wpAnyH_ready (rs := [4]) (by decide +kernel) (by simp) ?_
            refine AllReadyH.cons (o := { dst := some 19, op := Op.call { callee := Callee.value (Operand.func 26), args := #[Operand.tmp 17, Operand.tmp 18], argTypes := #[50, 24] }, type := 9, pos := "route.go:90", after := #[{ on := 2, ground := Ground.data }, { on := 3, ground := Ground.data }], guard := none }) rfl (fun K hK => ?_) AllReadyH.nil
            go_simp
            refine (HTA.out _ (HTE.out _ hk)).mono ?_
            rintro e1 wk ⟨rfl, hb1⟩
            replace hk := bstep hk hb1
            try replace hz := hz.step hb1
            clear hb1
            refine hK.out _ _ hk (fun _ => ?_)
            clear hK K
            try simp only [Act.put, List.setIfInBounds_toArray, List.set_cons_zero, List.set_cons_succ]
            refine wpAnyH_take (i := 5) (oi := { dst := some 20, op := Op.build 28 #[(0, Operand.tmp 16), (1, Operand.tmp 19)], type := 28, pos := "route.go:90", after := #[{ on := 1, ground := Ground.data }, { on := 4, ground := Ground.data }], guard := none }) (v := ?vwrt59) rfl (by kernel_rfl) (by kernel_rfl) (by kernel_rfl) (fun _ _ _ h => h) (Or.inl ⟨by rfl, ?ywrt59⟩) hk ?rwrt59
            case ywrt59 => (intro w hSw; (try dsimp only at hSw); go_simp; first | done | with_reducible rfl)
            simp only [Act.put, List.setIfInBounds_toArray, List.set_cons_zero, List.set_cons_succ]
            refine wpAnyH_ready (rs := [7]) (by decide +kernel) (by simp) ?_
            refine AllReadyH.cons (o := { dst := none, op := Op.store 28 (Operand.tmp 5) (Operand.tmp 20), type := 0, pos := "route.go:90", after := #[{ on := 6, ground := Ground.data }, { on := 5, ground := Ground.data }, { on := 4, ground := Ground.chain }, { on := 0, ground := Ground.phase }, { on := 1, ground := Ground.phase }, { on := 2, ground := Ground.phase }, { on := 3, ground := Ground.phase }, { on := 4, ground := Ground.phase }, { on := 5, ground := Ground.phase }, { on := 6, ground := Ground.phase }], guard := none }) rfl (fun K hK => ?_) AllReadyH.nil
            rw [if_pos (by rfl)]
            refine wp_store_mid 28 (.tmp 5) (.tmp 20) rfl gz 0 #[.string rm, .string tg, .string ⟨#[]⟩, .slice none 0 0] rfl rfl ?htwrt510 req_info (req_one _ _ _ _ rfl) ?_
            case htwrt510 => exact hz.there rfl
            have hrz := hz.put (D := #[.string rm, .string tg, .string ⟨#[]⟩, .slice none 0 0]) rfl
            have hzge := hz.ge
            replace hk : Below w3.heap.size w3 (wk.setCells gz 0 #[.string rm, .string tg, .string ⟨#[]⟩, .slice none 0 0].toList) := below_setCells hk _ hzge _ 0
            clear hz
            generalize wk.setCells gz 0 #[.string rm, .string tg, .string ⟨#[]⟩, .slice none 0 0].toList = wk at hk hrz ⊢
            simp only [Act.put]
            refine hK.out _ _ hk (fun _ => ?_)
            clear hK K
            try simp only [Act.put, List.setIfInBounds_toArray, List.set_cons_zero, List.set_cons_succ]
            refine wpAnyH_done (by decide +kernel) ?_ _
            go_wp2_with fail
            go_meet
            case rel => exact ⟨gz, rfl, ⟨hzge⟩, ⟨hrz⟩, ⟨hk⟩⟩
        case rest =>
          obtain ⟨gz, rfl, HG, HR, HBZ⟩ := hcut
          have HBc : Bx (Below W1.heap.size W1 wc) := ⟨bstep HB3c.out HBZ.out⟩
          obtain ⟨_, _, hZc, hBwc, hXc⟩ := HALL.out wc HBc.out
          have c3 : wc.cell? ⟨wr.heap.size, 3, none⟩ = some (.bool rh) := (HBZ.out.cell (p := ⟨wr.heap.size, 3, none⟩) HL0.out.1).trans HM3.out
          have cB : wc.cell? ⟨w.heap.size, 3, none⟩ = some (.slice ab n c) := (HBZ.out.cell (p := ⟨w.heap.size, 3, none⟩) HL0.out.2).trans HA3.out
          have HXC := Bx.mk hXc
          have HZC := Bx.mk hZc
          have HBW := Bx.mk hBwc
          have HGW : Bx (w.heap.size + 1 < gz) := ⟨by have := HG.out; have := HB3c.out.size; have := HW1.out; omega⟩
          have HGZ : Bx (gz < wc.heap.size) := ⟨(Array.getElem?_eq_some_iff.1 HR.out).1⟩
          clear hXc hZc hBwc HA0 HA1 HA2 HA3 HA4 HA5 HM0 HM1 HM2 HM3 HTA HTE HB3 hk
          cases rh with
          | true =>
            have HWY : Bx (wrtV a = ⟨rm, tg, ⟨#[]⟩, a.b⟩) := ⟨HWX.out⟩
            clear HWX
            go_wp2_with fail
            refine (clone_any ab n c a.b wc HXC.out (by have := HXN.out; omega)).mono ?_
            rintro e w6 ⟨v6, rfl, ho6, hb6⟩
            have hlx : n = a.b.length := HXC.out.len_eq.symm
            obtain ⟨vb, vc, hv6, _⟩ := Bts.of_owns ho6 HXC.out.byt
            subst hv6
            have hA6 : w6.heap[gz]? = some (.cells #[.string rm, .string tg, .string ⟨#[]⟩, .slice none 0 0] 28 (0, 0)) := (hb6.block _ HGZ.out).trans HR.out
            have hZ6 : w6.heap[w.heap.size + 1]? = some (.cells reqZ 28 (0, 0)) := (hb6.block _ (Array.getElem?_eq_some_iff.1 HZC.out).1).trans HZC.out
            have d3 : w6.cell? ⟨gz, 3, none⟩ = some (.slice none 0 0) := by rw [cell_of_row w6 _ 3 _ _ (0, 0) hA6]; rfl
            have f3 : w6.frozen? ⟨gz, 3, none⟩ = false := frozen_of_row _ _ 3 _ _ hA6
            have hA7 : (w6.setCell ⟨gz, 3, none⟩ (.slice vb n vc)).heap[gz]? = some (.cells #[.string rm, .string tg, .string ⟨#[]⟩, .slice vb n vc] 28 (0, 0)) := heap_setCell_same w6 _ 3 _ _ _ hA6
            have hZ7 : (w6.setCell ⟨gz, 3, none⟩ (.slice vb n vc)).heap[w.heap.size + 1]? = some (.cells reqZ 28 (0, 0)) := (setCells_other (vs := [.slice vb n vc]) (o := 3) (by have := HGW.out; omega)).trans hZ6
            have hB7 : Below w.heap.size w (w6.setCell ⟨gz, 3, none⟩ (.slice vb n vc)) := below_setCells (vs := [.slice vb n vc]) (o := 3) (bstep HBW.out hb6) _ (by have := HGW.out; omega)
            have ho7 : (w6.setCell ⟨gz, 3, none⟩ (.slice vb n vc)).ownsRow wc.heap.size 5 1 (.slice vb n vc) n (bv a.b) := owns_setCells (vs := [.slice vb n vc]) (o := 3) ho6 (fun q hq => by have := (ho6.lt q hq).1; have := HGZ.out; omega)
            have HO8 : Bx (((w6.setCell ⟨gz, 3, none⟩ (.slice vb n vc)).setCells (w.heap.size + 1) 0 #[.string rm, .string tg, .string ⟨#[]⟩, .slice vb n vc].toList).ownsRow w.heap.size 5 1 (.slice vb n vc) n (bv a.b)) := ⟨own_lowR (owns_setCells ho7 (fun q hq => by have := (ho7.lt q hq).1; have := HGW.out; have := HGZ.out; omega)) HBW.out.size⟩
            have HTR : Bx ((w6.setCell ⟨gz, 3, none⟩ (.slice vb n vc)).there (w.heap.size + 1) 0 4) := ⟨there_row hZ7⟩
            have HST : Bx (((w6.setCell ⟨gz, 3, none⟩ (.slice vb n vc)).setCells (w.heap.size + 1) 0 #[.string rm, .string tg, .string ⟨#[]⟩, .slice vb n vc].toList).heap[w.heap.size + 1]? = some (.cells #[.string rm, .string tg, .string ⟨#[]⟩, .slice vb n vc] 28 (0, 0))) := ⟨heap_stored hZ7 rfl⟩
            have HFB : Bx (Below w.heap.size w ((w6.setCell ⟨gz, 3, none⟩ (.slice vb n vc)).setCells (w.heap.size + 1) 0 #[.string rm, .string tg, .string ⟨#[]⟩, .slice vb n vc].toList)) := ⟨below_setCells hB7 _ (by omega) _ 0⟩
            have HA7 := Bx.mk hA7
            have HLX := Bx.mk hlx
            clear hlx hA6 hA7 hZ6 hZ7 hB7 ho7 ho6 hb6
            go_wp2_with (first
              | (refine wpList_load_row rfl 28 (.tmp 5) rfl gz rfl 28 #[.string rm, .string tg, .string ⟨#[]⟩, .slice vb n vc] (0, 0) _ HA7.out Tryz.underlying28 rfl req_info ?_)
              | (refine wpList_store_mid rfl 28 (.tmp 2) (.tmp 27) rfl (w.heap.size + 1) 0 #[.string rm, .string tg, .string ⟨#[]⟩, .slice vb n vc] rfl rfl HTR.out req_info (req_one _ _ _ _ rfl) ?_))
            refine bodyPost_ret (v := .agg #[.string rm, .string tg, .string ⟨#[]⟩, .slice vb n vc]) (results_cell_row rfl _ _ (w.heap.size + 1) 28 _ (0, 0) _ rfl HST.out Tryz.underlying28 rfl req_info) rfl ?_
            rw [HWY.out]
            refine ⟨vb, vc, ?_, ?_, HXC.out.byt, HFB.out⟩
            · show _ = Ending.returned (.agg #[.string rm, .string tg, .string ⟨#[]⟩, .slice vb a.b.length vc])
              rw [← HLX.out]
            · show World.ownsRow _ _ _ _ (.slice vb a.b.length vc) a.b.length (bv a.b)
              rw [← HLX.out]; exact HO8.out
          | false =>
            have HWY : Bx (wrtV a = ⟨rm, tg, ⟨#[]⟩, []⟩) := ⟨HWX.out⟩
            have HTR : Bx (wc.there (w.heap.size + 1) 0 4) := ⟨there_row HZC.out⟩
            have HST : Bx ((wc.setCells (w.heap.size + 1) 0 #[.string rm, .string tg, .string ⟨#[]⟩, .slice none 0 0].toList).heap[w.heap.size + 1]? = some (.cells #[.string rm, .string tg, .string ⟨#[]⟩, .slice none 0 0] 28 (0, 0))) := ⟨heap_stored HZC.out rfl⟩
            have HFB : Bx (Below w.heap.size w (wc.setCells (w.heap.size + 1) 0 #[.string rm, .string tg, .string ⟨#[]⟩, .slice none 0 0].toList)) := ⟨below_setCells HBW.out _ (by omega) _ 0⟩
            clear HWX cB
            go_wp2_with (first
              | (refine wpList_load_row rfl 28 (.tmp 5) rfl gz rfl 28 #[.string rm, .string tg, .string ⟨#[]⟩, .slice none 0 0] (0, 0) _ HR.out Tryz.underlying28 rfl req_info ?_)
              | (refine wpList_store_mid rfl 28 (.tmp 2) (.tmp 27) rfl (w.heap.size + 1) 0 #[.string rm, .string tg, .string ⟨#[]⟩, .slice none 0 0] rfl rfl HTR.out req_info (req_one _ _ _ _ rfl) ?_))
            refine bodyPost_ret (v := .agg #[.string rm, .string tg, .string ⟨#[]⟩, .slice none 0 0]) (results_cell_row rfl _ _ (w.heap.size + 1) 28 _ (0, 0) _ rfl HST.out Tryz.underlying28 rfl req_info) rfl ?_
            rw [HWY.out]
            exact ⟨none, 0, rfl, World.ownsRow_nil _ _ _ _, Byt.nil, HFB.out⟩
      · have g1 : (rk != a.k) = true := by simp [hkk]
        have HNN := Bx.mk (HNX.out hkk)
        clear hkk HNX hE3 hA3 hZ3 hB3w hX3 hR3
        go_wp2_with fail
        go_roundw
        case rel => exact ⟨k + 1, by have := HLT.out; omega, by go_num, HB3c, HNN⟩
        case measure => have := HLT.out; simp [intOf]; omega
    · have hge : ¬ (k : Int) < 10 := by omega
      obtain ⟨_, _, hZr, hBr, _⟩ := HALL.out wr HB.out
      have HWX : Bx (wrtV a = wx0) := ⟨wrt_none (by rw [← HN.out, List.drop_eq_nil_of_le (by show 10 ≤ k; omega)]; rfl)⟩
      have HTR : Bx (wr.there (w.heap.size + 1) 0 4) := ⟨there_row hZr⟩
      have HST : Bx ((wr.setCells (w.heap.size + 1) 0 reqZ.toList).heap[w.heap.size + 1]? = some (.cells reqZ 28 (0, 0))) := ⟨heap_stored hZr rfl⟩
      have HFB : Bx (Below w.heap.size w (wr.setCells (w.heap.size + 1) 0 reqZ.toList)) := ⟨below_setCells hBr _ (by omega) _ 0⟩
      clear hZr hBr HB HN HIX HTG
      go_wp2_with (refine wpList_store_mid rfl 28 (.tmp 2) (.tmp 29) rfl (w.heap.size + 1) 0 reqZ rfl rfl HTR.out req_info (req_one _ _ _ _ rfl) ?_)
      refine bodyPost_ret (v := .agg reqZ) (results_cell_row rfl _ _ (w.heap.size + 1) 28 _ (0, 0) _ rfl HST.out Tryz.underlying28 rfl req_info) rfl ?_
      rw [HWX.out]
      exact ⟨none, 0, rfl, World.ownsRow_nil _ _ _ _, Byt.nil, HFB.out⟩
end Go.Proofs.YtpfijaojgeceeaaGreatDoor
namespace Go.Proofs.YtpfijaojgeceeaaGreatDoor
open Go.RowKit
set_option linter.unusedVariables false

set_option maxRecDepth 100000 in
set_option maxHeartbeats 2000000 in
theorem rtsame_any (a b : As) (aa ba : Option Addr) (n m c d : Nat) (w : World) (ha : Bts w aa n c a.b) (hb : Bts w ba m d b.b) :
    Calls Tryz.prog 16 #[.agg (askV a aa n c), .agg (askV b ba m d)] w fun e w' => e = .returned (.bool (asE a b)) ∧ Below w.heap.size w w' := by
  have hB1 : Below w.heap.size w (w.alloc (.cells #[.int .i64 a.k, .string a.nm, .string a.sp, .slice aa n c, .int .i64 a.A, .int .i64 a.B] 24)) := (Below.refl _ _).alloc (Nat.le_refl _) _
  have hB2 : Below w.heap.size w ((w.alloc (.cells #[.int .i64 a.k, .string a.nm, .string a.sp, .slice aa n c, .int .i64 a.A, .int .i64 a.B] 24)).alloc (.cells #[.int .i64 b.k, .string b.nm, .string b.sp, .slice ba m d, .int .i64 b.A, .int .i64 b.B] 24)) := hB1.alloc (by simp) _
  have C1 : Hid (∀ W, Below w.heap.size w W → Calls Tryz.prog 27 #[.slice aa n c, .slice ba m d] W fun e w' => e = .returned (.bool (decide (a.b = b.b))) ∧ W = w') := fun W hW => beq_any aa ba n m c d a.b b.b W (ha.below hW) (hb.below hW)
  have e0 : (a.k == b.k) = decide (a.k = b.k) := rfl
  have e1 := str_beq a.nm b.nm
  have e2 := str_beq a.sp b.sp
  have e4 : (a.A == b.A) = decide (a.A = b.A) := rfl
  have e5 : (a.B == b.B) = decide (a.B = b.B) := rfl
  have HS : Bx (asE a b = (decide (a.k = b.k) && (decide (a.nm = b.nm) && (decide (a.sp = b.sp) && (decide (a.A = b.A) && (decide (a.B = b.B) && decide (a.b = b.b))))))) := ⟨rfl⟩
  have HB2 := Bx.mk hB2
  unfold askV
  generalize asE a b = R at HS ⊢
  generalize decide (a.k = b.k) = b0 at *
  generalize decide (a.nm = b.nm) = b1 at *
  generalize decide (a.sp = b.sp) = b2 at *
  generalize decide (a.b = b.b) = b3 at *
  generalize decide (a.A = b.A) = b4 at *
  generalize decide (a.B = b.B) = b5 at *
  generalize a.k = ak at *
  generalize a.nm = an at *
  generalize a.sp = asp at *
  generalize a.A = aA at *
  generalize a.B = aB at *
  generalize b.k = bk at *
  generalize b.nm = bn at *
  generalize b.sp = bs at *
  generalize b.A = bA at *
  generalize b.B = bB at *
  clear ha hb hB1 hB2
  cases b0 with
  | false =>
    go_enter Tryz.func16, Tryz.ntmps16
    go_wp2
    go_ret
    exact ⟨by rw [HS.out]; rfl, HB2.out⟩
  | true =>
    cases b1 with
    | false =>
      go_enter Tryz.func16, Tryz.ntmps16
      go_wp2
      go_ret
      exact ⟨by rw [HS.out]; rfl, HB2.out⟩
    | true =>
      cases b2 with
      | false =>
        go_enter Tryz.func16, Tryz.ntmps16
        go_wp2
        go_ret
        exact ⟨by rw [HS.out]; rfl, HB2.out⟩
      | true =>
        cases b3 with
        | false =>
          go_enter Tryz.func16, Tryz.ntmps16
          go_wp2_with fail
          refine (C1.out _ HB2.out).mono ?_
          rintro e w' ⟨rfl, hw⟩
          subst hw
          go_wp2
          go_ret
          exact ⟨by rw [HS.out]; simp, HB2.out⟩
        | true =>
          cases b4 with
          | false =>
            go_enter Tryz.func16, Tryz.ntmps16
            go_wp2_with fail
            refine (C1.out _ HB2.out).mono ?_
            rintro e w' ⟨rfl, hw⟩
            subst hw
            go_wp2
            go_ret
            exact ⟨by rw [HS.out]; rfl, HB2.out⟩
          | true =>
            go_enter Tryz.func16, Tryz.ntmps16
            go_wp2_with fail
            refine (C1.out _ HB2.out).mono ?_
            rintro e w' ⟨rfl, hw⟩
            subst hw
            go_wp2
            go_ret
            exact ⟨by rw [HS.out]; simp, HB2.out⟩
/-- what Print answers -/
def PrnP (T : WX × Int) (w : World) (e : Ending) (w' : World) : Prop := ∃ ab cap, e = .returned (.tuple #[reqV T.1 (.slice ab T.1.b.length cap), .int .i64 T.2]) ∧ w'.ownsRow w.heap.size 5 1 (.slice ab T.1.b.length cap) T.1.b.length (bv T.1.b) ∧ Byt T.1.b ∧ Below w.heap.size w w'
set_option maxRecDepth 100000 in
set_option maxHeartbeats 8000000 in
set_option maxRecDepth 100000 in
theorem print_rt (a : As) (ab : Option Addr) (n c : Nat) (w : World) (hb : Bts w ab n c a.b) (hA : V64 a.A) (hB : V64 a.B) (hnm : a.nm.size ≤ 1000) (hsp : a.sp.size ≤ 1000) (hn : n ≤ 1000000) (hE : RtE w) (hts : (wrtV a).t.size ≤ 1000000) :
    Calls Tryz.prog 6 #[.agg (askV a ab n c)] w (PrnP (prtV a) w) := by
  obtain ⟨hROW, hRZ, hsz⟩ := two_new18 w (.cells (askV a ab n c) 24) (.cells reqZ 28)
  have hB1 : Below w.heap.size w ((w.alloc (.cells (askV a ab n c) 24)).alloc (.cells reqZ 28)) := ((Below.refl _ _).alloc (Nat.le_refl _) _).alloc (by simp) _
  have hW1 : w.heap.size + 1 < ((w.alloc (.cells (askV a ab n c) 24)).alloc (.cells reqZ 28)).heap.size := (Array.getElem?_eq_some_iff.1 hRZ).1
  have HALL : Bx (∀ W, Below ((w.alloc (.cells (askV a ab n c) 24)).alloc (.cells reqZ 28)).heap.size ((w.alloc (.cells (askV a ab n c) 24)).alloc (.cells reqZ 28)) W → RtE W ∧ W.heap[w.heap.size]? = some (.cells (askV a ab n c) 24 (0, 0)) ∧ W.heap[w.heap.size + 1]? = some (.cells reqZ 28 (0, 0)) ∧ Below w.heap.size w W ∧ Bts W ab n c a.b) := ⟨fun W h => by
    have h2 := bstep hB1 h
    exact ⟨hE.below h2, (h.block _ (by omega)).trans hROW, (h.block _ hW1).trans hRZ, h2, hb.below h2⟩⟩
  have HWR : Bx (∀ W, RtE W → Bts W ab n c a.b → Calls Tryz.prog 15 #[.agg (askV a ab n c)] W (WrP (wrtV a) W)) := ⟨fun W h1 h2 => written_any a ab n c W h2 hA hB hnm hsp hn h1⟩
  have HPA : Bx (∀ W (xa : Option Addr) (xn xc : Nat), RtE W → Bts W xa xn xc (wrtV a).b → xn ≤ 1000000 → Calls Tryz.prog 9 #[reqV (wrtV a) (.slice xa xn xc)] W (ParP (parV (wrtV a)) W)) := ⟨fun W xa xn xc h1 h2 h3 => by rw [← rt_par]; exact parse_rt (wrtV a) xa xn xc W h2 hts h3 h1⟩
  have HPR : Bx (prtV a = if wrtOk a = true then (wrtV a, 0) else (wx0, 2)) := ⟨prt_wrt a⟩
  have HLB : Bx ((wrtV a).b.length ≤ 1000000) := ⟨by
    have h0 := hb.len_eq
    unfold wrtV
    split
    · show (if _ = true then a.b else []).length ≤ _
      split
      · omega
      · simp
    · simp [wx0]⟩
  have HOK0 : Bx (wrtOk a = (decide ((parV (wrtV a)).2 = 200) && asE a (parV (wrtV a)).1)) := ⟨rfl⟩
  have HROW := Bx.mk hROW
  have HW1 := Bx.mk hW1
  clear hRZ hsz hB1 hW1 hE hb hA hB hnm hsp hn hts hROW
  generalize hw1 : (w.alloc (.cells (askV a ab n c) 24)).alloc (.cells reqZ 28) = W1 at *
  unfold reqZ askV at hw1
  have hA1 := (HALL.out W1 (Below.refl _ _))
  have HE1 := Bx.mk hA1.1
  have HX1 := Bx.mk hA1.2.2.2.2
  have HR1 := Bx.mk hA1.2.1
  clear hA1
  generalize wrtV a = x at *
  generalize parV x = y at *
  obtain ⟨b, code⟩ := y
  unfold reqV at HPA
  show Calls Tryz.prog 6 #[.agg #[.int .i64 a.k, .string a.nm, .string a.sp, .slice ab n c, .int .i64 a.A, .int .i64 a.B]] w (PrnP (prtV a) w)
  go_enter Tryz.func6, Tryz.ntmps6
  go_upto_region 1 with fail
  clear hw1
  go_wp2_with (refine wpList_load_row rfl 24 (.tmp 1) rfl w.heap.size rfl 24 (askV a ab n c) (0, 0) _ HR1.out Tryz.underlying24 rfl ask_info22 ?_)
  refine (HWR.out _ HE1.out HX1.out).mono ?_
  rintro e w2 ⟨xa, xc, rfl, hox, hbx, hb2⟩
  unfold reqV
  have hN := heap_alloc_new w2 (.cells #[.string x.m, .string x.t, .string x.k, .slice xa x.b.length xc] 28)
  have hNB : Below w2.heap.size w2 (w2.alloc (.cells #[.string x.m, .string x.t, .string x.k, .slice xa x.b.length xc] 28)) := (Below.refl _ _).alloc (Nat.le_refl _) _
  go_upto_region 2 with fail
  generalize hw3 : w2.alloc (.cells #[.string x.m, .string x.t, .string x.k, .slice xa x.b.length xc] 28) = w3 at *
  clear hw3
  have HB3 : Bx (Below W1.heap.size W1 w3) := ⟨bstep hb2 hNB⟩
  have ho3 := owns_below hox hNB
  have HO3 : Bx (w3.ownsRow W1.heap.size 5 1 (.slice xa x.b.length xc) x.b.length (bv x.b)) := ⟨ho3⟩
  obtain ⟨hE3, _, _, _, _⟩ := HALL.out w3 HB3.out
  have HPC := Bx.mk (HPA.out w3 xa _ xc hE3 (by
    obtain ⟨a9, c9, h9, hb9⟩ := Bts.of_owns ho3 hbx
    cases h9; exact hb9) HLB.out)
  have HN := Bx.mk hN
  have HG2 : Bx (W1.heap.size ≤ w2.heap.size) := ⟨hb2.size⟩
  clear hE3 ho3 hN hNB hox hb2 HPA HWR HR1 HX1 HE1
  go_wp2_with (refine wpList_load_row rfl 28 (.tmp 4) rfl w2.heap.size rfl 28 #[.string x.m, .string x.t, .string x.k, .slice xa x.b.length xc] (0, 0) _ HN.out Tryz.underlying28 rfl req_info ?_)
  refine HPC.out.mono ?_
  rintro e w4 ⟨ba, bc, rfl, hob, hbb, hb4⟩
  dsimp only at hob hbb hb4 ⊢
  obtain ⟨aB, cB, hBB, hbB⟩ := Bts.of_owns hob hbb
  cases hBB
  have hN5 := heap_alloc_new w4 (.cells (askV b ba b.b.length bc) 24)
  have hNB5 : Below w4.heap.size w4 (w4.alloc (.cells (askV b ba b.b.length bc) 24)) := (Below.refl _ _).alloc (Nat.le_refl _) _
  unfold askV at hN5 hNB5
  go_upto_region 3 with fail
  generalize hw5 : w4.alloc (.cells #[.int .i64 b.k, .string b.nm, .string b.sp, .slice ba b.b.length bc, .int .i64 b.A, .int .i64 b.B] 24) = w5 at *
  clear hw5
  have hB35 : Below w3.heap.size w3 w5 := bstep hb4 hNB5
  have hB5 : Below W1.heap.size W1 w5 := bstep HB3.out hB35
  obtain ⟨_, hA5, hZ9, hB9, hX5⟩ := HALL.out w5 hB5
  have HBB5 := Bx.mk (hbB.below hNB5)
  have HO5 := Bx.mk (owns_below HO3.out hB35)
  have HN5 : Bx (w5.heap[w2.heap.size]? = some (.cells #[.string x.m, .string x.t, .string x.k, .slice xa x.b.length xc] 28 (0, 0))) := ⟨(hB35.block _ (Array.getElem?_eq_some_iff.1 HN.out).1).trans HN.out⟩
  have HX5 := Bx.mk hX5
  by_cases hc : code = 200
  · have g1 : (code != 200) = false := by simp [hc]
    have HOK1 : Bx (wrtOk a = asE a b) := ⟨by rw [HOK0.out, decide_eq_true hc]; rfl⟩
    have a0 : w5.cell? ⟨w.heap.size, 0, none⟩ = some (.int .i64 a.k) := by rw [cell_of_row w5 _ 0 _ _ (0, 0) hA5]; rfl
    have a1 : w5.cell? ⟨w.heap.size, 1, none⟩ = some (.string a.nm) := by rw [cell_of_row w5 _ 1 _ _ (0, 0) hA5]; rfl
    have a2 : w5.cell? ⟨w.heap.size, 2, none⟩ = some (.string a.sp) := by rw [cell_of_row w5 _ 2 _ _ (0, 0) hA5]; rfl
    have a3 : w5.cell? ⟨w.heap.size, 3, none⟩ = some (.slice ab n c) := by rw [cell_of_row w5 _ 3 _ _ (0, 0) hA5]; rfl
    have a4 : w5.cell? ⟨w.heap.size, 4, none⟩ = some (.int .i64 a.A) := by rw [cell_of_row w5 _ 4 _ _ (0, 0) hA5]; rfl
    have a5 : w5.cell? ⟨w.heap.size, 5, none⟩ = some (.int .i64 a.B) := by rw [cell_of_row w5 _ 5 _ _ (0, 0) hA5]; rfl
    have b0 : w5.cell? ⟨w4.heap.size, 0, none⟩ = some (.int .i64 b.k) := by rw [cell_of_row w5 _ 0 _ _ (0, 0) hN5]; rfl
    have b1 : w5.cell? ⟨w4.heap.size, 1, none⟩ = some (.string b.nm) := by rw [cell_of_row w5 _ 1 _ _ (0, 0) hN5]; rfl
    have b2 : w5.cell? ⟨w4.heap.size, 2, none⟩ = some (.string b.sp) := by rw [cell_of_row w5 _ 2 _ _ (0, 0) hN5]; rfl
    have b3 : w5.cell? ⟨w4.heap.size, 3, none⟩ = some (.slice ba b.b.length bc) := by rw [cell_of_row w5 _ 3 _ _ (0, 0) hN5]; rfl
    have b4 : w5.cell? ⟨w4.heap.size, 4, none⟩ = some (.int .i64 b.A) := by rw [cell_of_row w5 _ 4 _ _ (0, 0) hN5]; rfl
    have b5 : w5.cell? ⟨w4.heap.size, 5, none⟩ = some (.int .i64 b.B) := by rw [cell_of_row w5 _ 5 _ _ (0, 0) hN5]; rfl
    have HSM := Bx.mk (rtsame_any a b ab ba n b.b.length c bc w5 HX5.out HBB5.out)
    have HZ9 := Bx.mk hZ9
    have HB9 := Bx.mk hB9
    have HGW : Bx (w.heap.size + 1 < w2.heap.size) := ⟨by have := HG2.out; have := HW1.out; omega⟩
    unfold askV at HSM
    clear hA5 hN5 hc hX5 hb4 hNB5 hB35 hB5 hbB hob hbb HALL HX5 HBB5 HO3 HPC HN hZ9 hB9 HROW
    go_wp2_with fail
    refine HSM.out.mono ?_
    rintro e w6 ⟨rfl, hb6⟩
    have hB9 : Below w.heap.size w w6 := bstep HB9.out hb6
    have hZ9 : w6.heap[w.heap.size + 1]? = some (.cells reqZ 28 (0, 0)) := (hb6.block _ (Array.getElem?_eq_some_iff.1 HZ9.out).1).trans HZ9.out
    have hN6 : w6.heap[w2.heap.size]? = some (.cells #[.string x.m, .string x.t, .string x.k, .slice xa x.b.length xc] 28 (0, 0)) := (hb6.block _ (Array.getElem?_eq_some_iff.1 HN5.out).1).trans HN5.out
    have ho6 := owns_below HO5.out hb6
    cases hs : asE a b with
    | false =>
      have HOK : Bx (wrtOk a = false) := ⟨HOK1.out.trans hs⟩
      clear hs hb6 hN6 ho6 a0 a1 a2 a3 a4 a5 b0 b1 b2 b3 b4 b5
      have HPT : Bx (prtV a = (wx0, 2)) := ⟨by rw [HPR.out, if_neg (by rw [HOK.out]; decide)]⟩
      have HTR : Bx (w6.there (w.heap.size + 1) 0 4) := ⟨there_row hZ9⟩
      have HST : Bx ((w6.setCells (w.heap.size + 1) 0 reqZ.toList).heap[w.heap.size + 1]? = some (.cells reqZ 28 (0, 0))) := ⟨heap_stored hZ9 rfl⟩
      have HFB : Bx (Below w.heap.size w (w6.setCells (w.heap.size + 1) 0 reqZ.toList)) := ⟨below_setCells hB9 _ (by omega) _ 0⟩
      clear hZ9 hB9
      go_wp2_with (refine wpList_store_mid rfl 28 (.tmp 2) (.tmp 22) rfl (w.heap.size + 1) 0 reqZ rfl rfl HTR.out req_info (req_one _ _ _ _ rfl) ?_)
      refine bodyPost_ret (v := .tuple #[.agg reqZ, .int .i64 2]) (results_rt rfl _ _ (w.heap.size + 1) reqZ _ rfl rfl HST.out req_info) rfl ?_
      rw [HPT.out]
      exact ⟨none, 0, rfl, World.ownsRow_nil _ _ _ _, Byt.nil, HFB.out⟩
    | true =>
      have HPT : Bx (prtV a = (x, 0)) := ⟨by rw [HPR.out, if_pos (HOK1.out.trans hs)]⟩
      have HN6 := Bx.mk hN6
      have HTR : Bx (w6.there (w.heap.size + 1) 0 4) := ⟨there_row hZ9⟩
      have HST : Bx ((w6.setCells (w.heap.size + 1) 0 #[.string x.m, .string x.t, .string x.k, .slice xa x.b.length xc].toList).heap[w.heap.size + 1]? = some (.cells #[.string x.m, .string x.t, .string x.k, .slice xa x.b.length xc] 28 (0, 0))) := ⟨heap_stored hZ9 rfl⟩
      have HFB : Bx (Below w.heap.size w (w6.setCells (w.heap.size + 1) 0 #[.string x.m, .string x.t, .string x.k, .slice xa x.b.length xc].toList)) := ⟨below_setCells hB9 _ (by omega) _ 0⟩
      have HO8 : Bx ((w6.setCells (w.heap.size + 1) 0 #[.string x.m, .string x.t, .string x.k, .slice xa x.b.length xc].toList).ownsRow w.heap.size 5 1 (.slice xa x.b.length xc) x.b.length (bv x.b)) := ⟨own_lowR (owns_setCells ho6 (fun q hq => by have := (ho6.lt q hq).1; have := HW1.out; omega)) (by have := HW1.out; omega)⟩
      clear hs hb6 hN6 ho6 hZ9 hB9 a0 a1 a2 a3 a4 a5 b0 b1 b2 b3 b4 b5
      go_wp2_with (first
        | (refine wpList_load_row rfl 28 (.tmp 4) rfl w2.heap.size rfl 28 #[.string x.m, .string x.t, .string x.k, .slice xa x.b.length xc] (0, 0) _ HN6.out Tryz.underlying28 rfl req_info ?_)
        | (refine wpList_store_mid rfl 28 (.tmp 2) (.tmp 23) rfl (w.heap.size + 1) 0 #[.string x.m, .string x.t, .string x.k, .slice xa x.b.length xc] rfl rfl HTR.out req_info (req_one _ _ _ _ rfl) ?_))
      refine bodyPost_ret (v := .tuple #[.agg #[.string x.m, .string x.t, .string x.k, .slice xa x.b.length xc], .int .i64 0]) (results_rt rfl _ _ (w.heap.size + 1) #[.string x.m, .string x.t, .string x.k, .slice xa x.b.length xc] _ rfl rfl HST.out req_info) rfl ?_
      rw [HPT.out]
      exact ⟨xa, xc, rfl, HO8.out, hbx, HFB.out⟩
  · have g1 : (code != 200) = true := by simp [hc]
    have HOK : Bx (wrtOk a = false) := ⟨by rw [HOK0.out, decide_eq_false hc]; rfl⟩
    clear hc hA5 hX5 hb4 hNB5 hB35 hB5 hbB hob hbb HALL HX5 HBB5 HO3 HPC HN HROW hN5
    have HPT : Bx (prtV a = (wx0, 2)) := ⟨by rw [HPR.out, if_neg (by rw [HOK.out]; decide)]⟩
    have HTR : Bx (w5.there (w.heap.size + 1) 0 4) := ⟨there_row hZ9⟩
    have HST : Bx ((w5.setCells (w.heap.size + 1) 0 reqZ.toList).heap[w.heap.size + 1]? = some (.cells reqZ 28 (0, 0))) := ⟨heap_stored hZ9 rfl⟩
    have HFB : Bx (Below w.heap.size w (w5.setCells (w.heap.size + 1) 0 reqZ.toList)) := ⟨below_setCells hB9 _ (by omega) _ 0⟩
    clear hZ9 hB9
    go_wp2_with (refine wpList_store_mid rfl 28 (.tmp 2) (.tmp 22) rfl (w.heap.size + 1) 0 reqZ rfl rfl HTR.out req_info (req_one _ _ _ _ rfl) ?_)
    refine bodyPost_ret (v := .tuple #[.agg reqZ, .int .i64 2]) (results_rt rfl _ _ (w.heap.size + 1) reqZ _ rfl rfl HST.out req_info) rfl ?_
    rw [HPT.out]
    exact ⟨none, 0, rfl, World.ownsRow_nil _ _ _ _, Byt.nil, HFB.out⟩
end Go.Proofs.YtpfijaojgeceeaaGreatDoor
