/- For every two asks the law RouteOne returns true and both read as they did (P23.2): no two asks have the same request, but for what plays no part. The library's tables and errors, and the package's table of targets, are as the program's text lays them (the card ties them). -/
import Derived.Test.YtpfijaojgeceeaaDoorTDoor
import Derived.LaidMore
import Derived.Test.YtpfijaojgeceeaaDoorAuaa
import Derived.Test.YtpfijaojgeceeaaDoorAuac
import Derived.Test.YtpfijaojgeceeaaDoorAuak
import Derived.Test.YtpfijaojgeceeaaDoorAskCut
import Derived.Test.YtpfijaojgeceeaaDoorRqSame
import Derived.WalkKit
import Derived.ShutString
import Derived.ChangeOld
import Derived.Below
namespace Go.Proofs.YtpfijaojgeceeaaDoor.routeOne
open Go.ChangeShapes Go.WideShapes Go.ChangeAt Go.RowKit
open Go.ChangeMaps (open_string shut_string)
set_option linter.unusedVariables false

theorem laidOut : laidOutB Tryd.prog = true := by kernel_rfl

theorem asE_self (a : As) : asE a a = true := (asE_iff a a).2 rfl
theorem smW_same (x : WX) : smW x x = true := (smW_iff x x).2 rfl
theorem ctA_twice (a : As) : ctA (ctA a) = ctA a := ctA_id (ctT_size _ _) (ctT_size _ _) (by show (a.b.take 4200).length ≤ 4200; rw [List.length_take]; omega)
theorem wrt_size {a : As} (hA : V64 a.A) (hB : V64 a.B) (h1 : a.nm.size ≤ 30) (h2 : a.sp.size ≤ 30) : (wrtV a).t.size ≤ 1000000 := by
  unfold wrtV
  cases hf : rtL.find? (fun r => decide (r.k = a.k)) with
  | none => exact Nat.zero_le _
  | some r =>
    show (tgtR r a).size ≤ _
    obtain ⟨j, hj, hjr⟩ := List.getElem_of_mem (List.mem_of_find?_eq_some hf)
    have hj10 : j < 10 := hj
    have e : rtL.getD j rt0 = r := by rw [List.getD_eq_getElem?_getD, List.getElem?_eq_getElem hj]; exact hjr
    obtain ⟨_, hps, _, _⟩ := rt_pts j hj10
    obtain ⟨_, hpl⟩ := rt_small j hj10
    rw [e] at hps hpl
    unfold tgtR
    have h3 : ∀ s ∈ (ptsR r).map (wrPc a), s.size ≤ 2000 := fun s hs => by
      obtain ⟨p, hp, rfl⟩ := List.mem_map.1 hs
      exact wrPc_size hA hB (by omega) (by omega) (hps p hp)
    have h4 := joinS_len h3
    rw [Lib.size_eq]
    show (Lib.join _ [47]).length ≤ _
    rw [List.length_map] at h4
    have h5 : (2000 + 1) * (ptsR r).length ≤ 2001 * 4 := Nat.mul_le_mul_left _ hpl
    omega
theorem bts_own {w : World} {B n c : Nat} {a : Option Addr} {l : List Int} (h : w.ownsRow B 5 1 (.slice a n c) n (bv l)) (hl : Byt l) : Bts w a n c l := by
  obtain ⟨a2, c2, e, hb⟩ := Bts.of_owns h hl
  cases e; exact hb
theorem range_rowR {w : World} {b : Nat} {cs : Array Value} {t : TypeId} (h : w.heap[b]? = some (.cells cs t (0, 0))) : w.rangeAt b 0 cs.toList := fun j v hj => by
  rw [Nat.zero_add, cell_of_row w b j cs t (0, 0) h, ← Array.getElem?_toList]; exact hj
theorem two_keep {w : World} {g n c : Nat} {a : Option Addr} {l : List Int} (h : Bts w a n c l) (hn : ∀ p, a = some p → g + 2 ≤ p.block) (vs us : List Value) : Bts ((w.setCells g 0 vs).setCells (g + 1) 0 us) a n c l :=
  by
  have h1 : Bts (w.setCells g 0 vs) a n c l := h.keep (fun _ p hp => setCells_other (by have := hn p hp; omega) _ _) (by rw [setCells_size]; exact Nat.le_refl _)
  exact h1.keep (fun _ p hp => setCells_other (by have := hn p hp; omega) _ _) (by rw [setCells_size (w := w.setCells g 0 vs)]; exact Nat.le_refl _)
/-- two asks in variables, as they came in -/
structure F2 (w wk : World) (a : As) (a0 : Option Addr) (n0 c0 : Nat) (b : As) (b0 : Option Addr) (m0 d0 : Nat) : Prop where
  ra : wk.heap[w.heap.size]? = some (.cells (askV a a0 n0 c0) 27 (0, 0))
  rb : wk.heap[w.heap.size + 1]? = some (.cells (askV b b0 m0 d0) 27 (0, 0))
  low : Below w.heap.size w wk
  ia : AskI wk a a0 n0 c0
  ib : AskI wk b b0 m0 d0
theorem F2.below {w wk wz : World} {a b : As} {a0 b0 : Option Addr} {n0 c0 m0 d0 : Nat} (h : F2 w wk a a0 n0 c0 b b0 m0 d0) (hb : Below wk.heap.size wk wz) : F2 w wz a a0 n0 c0 b b0 m0 d0 :=
  ⟨(hb.block _ (Array.getElem?_eq_some_iff.1 h.ra).1).trans h.ra, (hb.block _ (Array.getElem?_eq_some_iff.1 h.rb).1).trans h.rb, bstep h.low hb, h.ia.below hb, h.ib.below hb⟩
theorem F2.drew {w wk : World} {a b : As} {a0 b0 : Option Addr} {n0 c0 m0 d0 : Nat} (h : F2 w wk a a0 n0 c0 b b0 m0 d0) : F2 w wk.drew a a0 n0 c0 b b0 m0 d0 := h.below (Below.refl _ _).drew
theorem F2.sz {w wk : World} {a b : As} {a0 b0 : Option Addr} {n0 c0 m0 d0 : Nat} (h : F2 w wk a a0 n0 c0 b b0 m0 d0) : w.heap.size + 2 ≤ wk.heap.size := (Array.getElem?_eq_some_iff.1 h.rb).1
/-- the same, cut -/
structure G2 (w wk : World) (a : As) (a0 : Option Addr) (n0 c0 : Nat) (b : As) (b0 : Option Addr) (m0 d0 : Nat) : Prop where
  ra : wk.heap[w.heap.size]? = some (.cells (askV a a0 n0 c0) 27 (0, 0))
  rb : wk.heap[w.heap.size + 1]? = some (.cells (askV b b0 m0 d0) 27 (0, 0))
  low : Below w.heap.size w wk
  ba : Bts wk a0 n0 c0 a.b
  bb : Bts wk b0 m0 d0 b.b
  na : n0 ≤ 4200
  nb : m0 ≤ 4200
theorem G2.below {w wk wz : World} {a b : As} {a0 b0 : Option Addr} {n0 c0 m0 d0 : Nat} (h : G2 w wk a a0 n0 c0 b b0 m0 d0) (hb : Below wk.heap.size wk wz) : G2 w wz a a0 n0 c0 b b0 m0 d0 :=
  ⟨(hb.block _ (Array.getElem?_eq_some_iff.1 h.ra).1).trans h.ra, (hb.block _ (Array.getElem?_eq_some_iff.1 h.rb).1).trans h.rb, bstep h.low hb, h.ba.below hb, h.bb.below hb, h.na, h.nb⟩
theorem one_eq {a b : As} (ha : (prtV a).2 = 0) (hb : (prtV b).2 = 0) : smW (prtV a).1 (prtV b).1 = asE a b := by
  have h := prtV_one ha hb
  have h1 := smW_iff (prtV a).1 (prtV b).1
  have h2 := asE_iff a b
  rw [Bool.eq_iff_iff]
  exact h1.trans (h.trans h2.symm)
theorem prt_code (a : As) : (prtV a).2 = 0 ∨ (prtV a).2 = 2 := by
  unfold prtV
  split
  · exact .inl rfl
  · exact .inr rfl

set_option maxRecDepth 100000 in
set_option maxHeartbeats 1000000 in
theorem walk (a : As) (a0 : Option Addr) (n0 c0 : Nat) (b : As) (a1 : Option Addr) (n1 c1 : Nat) (w : World) (ha : AskI w a a0 n0 c0) (hb : AskI w b a1 n1 c1) (hL : laidMetH Tryd.prog Rows.routeOneRow.laid w) (hsh : w.ShapedOpen Tryd.prog) :
    Calls Tryd.prog 5 #[.agg (askV a a0 n0 c0), .agg (askV b a1 n1 c1)] w fun e w' => e = .returned (.bool true) ∧ Below w.heap.size w w' := by
  have hL' := plainH hL (by kernel_rfl)
  have hE : RtE w := ⟨tens_at hL' 2 rfl, errs_at hL' 3 4 rfl rfl, rtb_at hL' 5 rfl⟩
  clear hL hL' hsh
  obtain ⟨hRA, hRB, _⟩ := two_new18 w (.cells (askV a a0 n0 c0) 27) (.cells (askV b a1 n1 c1) 27)
  have hB1 : Below w.heap.size w ((w.alloc (.cells (askV a a0 n0 c0) 27)).alloc (.cells (askV b a1 n1 c1) 27)) := ((Below.refl _ _).alloc (Nat.le_refl _) _).alloc (by simp) _
  have HF0 : Bx (F2 w ((w.alloc (.cells (askV a a0 n0 c0) 27)).alloc (.cells (askV b a1 n1 c1) 27)) a a0 n0 c0 b a1 n1 c1) := ⟨⟨hRA, hRB, hB1, ha.below hB1, hb.below hB1⟩⟩
  have HCA : Bx (∀ W, AskI W a a0 n0 c0 → Calls Tryd.prog 12 #[.agg (askV a a0 n0 c0)] W fun e w' => ∃ a' m' c', e = .returned (.agg (askV (ctA a) a' m' c')) ∧ Bts w' a' m' c' (ctA a).b ∧ (∀ p, a' = some p → W.heap.size ≤ p.block) ∧ m' ≤ 4200 ∧ Below W.heap.size W w') := ⟨fun W h => acut_any a a0 n0 c0 W h⟩
  have HCB : Bx (∀ W, AskI W b a1 n1 c1 → Calls Tryd.prog 12 #[.agg (askV b a1 n1 c1)] W fun e w' => ∃ a' m' c', e = .returned (.agg (askV (ctA b) a' m' c')) ∧ Bts w' a' m' c' (ctA b).b ∧ (∀ p, a' = some p → W.heap.size ≤ p.block) ∧ m' ≤ 4200 ∧ Below W.heap.size W w') := ⟨fun W h => acut_any b a1 n1 c1 W h⟩
  have HPA : Bx (∀ W b m c, RtE W → Bts W b m c (ctA a).b → m ≤ 4200 → Calls Tryd.prog 13 #[.agg (askV (ctA a) b m c)] W (PrnP (prtV (ctA a)) W)) := ⟨fun W b m c h1 h2 h3 => print_rt (ctA a) b m c W h2 ha.A ha.B (by have : (ctA a).nm.size ≤ 30 := ctT_size _ _; omega) (by have : (ctA a).sp.size ≤ 30 := ctT_size _ _; omega) (by omega) h1 (wrt_size ha.A ha.B (ctT_size _ _) (ctT_size _ _))⟩
  have HPB : Bx (∀ W d m c, RtE W → Bts W d m c (ctA b).b → m ≤ 4200 → Calls Tryd.prog 13 #[.agg (askV (ctA b) d m c)] W (PrnP (prtV (ctA b)) W)) := ⟨fun W d m c h1 h2 h3 => print_rt (ctA b) d m c W h2 hb.A hb.B (by have : (ctA b).nm.size ≤ 30 := ctT_size _ _; omega) (by have : (ctA b).sp.size ≤ 30 := ctT_size _ _; omega) (by omega) h1 (wrt_size hb.A hb.B (ctT_size _ _) (ctT_size _ _))⟩
  have HE0 := Bx.mk hE
  clear hE hRA hRB hB1 ha hb
  generalize ctA a = z1 at *
  generalize ctA b = z2 at *
  show Calls Tryd.prog 5 #[.agg #[.int .i64 a.k, .string a.nm, .string a.sp, .slice a0 n0 c0, .int .i64 a.A, .int .i64 a.B], .agg #[.int .i64 b.k, .string b.nm, .string b.sp, .slice a1 n1 c1, .int .i64 b.A, .int .i64 b.B]] w fun e w' => e = .returned (.bool true) ∧ Below w.heap.size w w'
  generalize hw1 : (w.alloc (.cells (askV a a0 n0 c0) 27)).alloc (.cells (askV b a1 n1 c1) 27) = w1 at *
  unfold askV at hw1
  go_enter Tryd.func5, Tryd.ntmps5
  go_upto_region 1 with fail
  clear hw1
  go_cut [] from 9 to 12 (fun wx => ∃ ya yn yc za zn zc, Bx (G2 w wx z1 ya yn yc z2 za zn zc))
  case first =>
    refine wp_region_held_drew (S := fun _ => True) (by kernel_rfl) trivial (fun _ => ?_)
    generalize hwd : w1.drew = wk at *
    have HF : Bx (F2 w wk a a0 n0 c0 b a1 n1 c1) := ⟨by rw [← hwd]; exact HF0.out.drew⟩
    clear hwd
    refine wpAnyH_ready (rs := [0, 2]) (by decide +kernel) (by simp) ?_
    refine (AllReadyH.cons (o := { dst := some 9, op := Op.load 27 (Operand.tmp 2), type := 27, pos := "law.go:71", after := #[], guard := none }) rfl (fun K hK => ?_) (AllReadyH.cons (o := { dst := some 11, op := Op.load 27 (Operand.tmp 3), type := 27, pos := "law.go:71", after := #[], guard := none }) rfl (fun K hK => ?_) AllReadyH.nil))
    · rw [if_pos (by rfl)]
      refine wp_load_mid 27 (.tmp 2) rfl w.heap.size 0 rfl (askV a a0 n0 c0).toList _ (range_rowR HF.out.ra) Tryd.underlying27 rfl ask_info22 ?_
      refine hK.out _ _ trivial (fun _ => ?_)
      clear hK K
      try simp only [Act.put, List.setIfInBounds_toArray, List.set_cons_zero, List.set_cons_succ]
      refine wpAnyH_ready (rs := [1, 2]) (by decide +kernel) (by simp) ?_
      refine (AllReadyH.cons (o := { dst := some 10, op := Op.call { callee := Callee.value (Operand.func 12), args := #[Operand.tmp 9], argTypes := #[27] }, type := 27, pos := "law.go:71", after := #[{ on := 0, ground := Ground.data }], guard := none }) rfl (fun K hK => ?_) (AllReadyH.cons (o := { dst := some 11, op := Op.load 27 (Operand.tmp 3), type := 27, pos := "law.go:71", after := #[], guard := none }) rfl (fun K hK => ?_) AllReadyH.nil))
      · go_simp
        refine (HCA.out _ HF.out.ia).mono ?_
        rintro e1 wz ⟨ya, yn, yc, rfl, hby, hny, hyn, hb1⟩
        have HYA : Bx (Bts wz ya yn yc z1.b ∧ (∀ p, ya = some p → w.heap.size + 2 ≤ p.block) ∧ yn ≤ 4200) := ⟨hby, fun p hp => Nat.le_trans HF.out.sz (hny p hp), hyn⟩
        replace HF : Bx (F2 w wz a a0 n0 c0 b a1 n1 c1) := ⟨HF.out.below hb1⟩
        clear hby hny hyn
        refine hK.out _ _ trivial (fun _ => ?_)
        clear hK K
        try simp only [Act.put, List.setIfInBounds_toArray, List.set_cons_zero, List.set_cons_succ]
        refine wpAnyH_ready (rs := [2]) (by decide +kernel) (by simp) ?_
        refine AllReadyH.cons (o := { dst := some 11, op := Op.load 27 (Operand.tmp 3), type := 27, pos := "law.go:71", after := #[], guard := none }) rfl (fun K hK => ?_) AllReadyH.nil
        rw [if_pos (by rfl)]
        refine wp_load_mid 27 (.tmp 3) rfl (w.heap.size + 1) 0 rfl (askV b a1 n1 c1).toList _ (range_rowR HF.out.rb) Tryd.underlying27 rfl ask_info22 ?_
        refine hK.out _ _ trivial (fun _ => ?_)
        clear hK K
        try simp only [Act.put, List.setIfInBounds_toArray, List.set_cons_zero, List.set_cons_succ]
        refine wpAnyH_ready (rs := [3]) (by decide +kernel) (by simp) ?_
        refine AllReadyH.cons (o := { dst := some 12, op := Op.call { callee := Callee.value (Operand.func 12), args := #[Operand.tmp 11], argTypes := #[27] }, type := 27, pos := "law.go:71", after := #[{ on := 2, ground := Ground.data }, { on := 1, ground := Ground.chain }], guard := none }) rfl (fun K hK => ?_) AllReadyH.nil
        go_simp
        refine (HCB.out _ HF.out.ib).mono ?_
        rintro e2 wy ⟨za, zn, zc, rfl, hbz, hnz, hzn, hb2⟩
        have HZA : Bx (Bts wy za zn zc z2.b ∧ (∀ p, za = some p → w.heap.size + 2 ≤ p.block) ∧ zn ≤ 4200) := ⟨hbz, fun p hp => Nat.le_trans HF.out.sz (hnz p hp), hzn⟩
        replace HYA : Bx (Bts wy ya yn yc z1.b ∧ (∀ p, ya = some p → w.heap.size + 2 ≤ p.block) ∧ yn ≤ 4200) := ⟨HYA.out.1.below hb2, HYA.out.2⟩
        replace HF : Bx (F2 w wy a a0 n0 c0 b a1 n1 c1) := ⟨HF.out.below hb2⟩
        have HTA : Bx (wy.there w.heap.size 0 6) := ⟨there_row HF.out.ra⟩
        have HAL := Bx.mk (askV_all z1 ya yn yc)
        have HAL2 := Bx.mk (askV_all z2 za zn zc)
        have HFA : Bx ((wy.setCells w.heap.size 0 (askV z1 ya yn yc).toList).heap[w.heap.size]? = some (.cells (askV z1 ya yn yc) 27 (0, 0))) := ⟨heap_stored HF.out.ra rfl⟩
        have HFB : Bx ((wy.setCells w.heap.size 0 (askV z1 ya yn yc).toList).heap[w.heap.size + 1]? = some (.cells (askV b a1 n1 c1) 27 (0, 0))) := ⟨(setCells_other (by omega) _ _).trans HF.out.rb⟩
        have HTB : Bx ((wy.setCells w.heap.size 0 (askV z1 ya yn yc).toList).there (w.heap.size + 1) 0 6) := ⟨there_row HFB.out⟩
        have HLW : Bx (Below w.heap.size w (wy.setCells w.heap.size 0 (askV z1 ya yn yc).toList)) := ⟨below_setCells HF.out.low _ (Nat.le_refl _) _ 0⟩
        have HG : Bx (G2 w ((wy.setCells w.heap.size 0 (askV z1 ya yn yc).toList).setCells (w.heap.size + 1) 0 (askV z2 za zn zc).toList) z1 ya yn yc z2 za zn zc) := ⟨⟨(setCells_other (by omega) _ _).trans HFA.out, heap_stored HFB.out rfl, below_setCells HLW.out _ (by omega) _ 0, two_keep HYA.out.1 HYA.out.2.1 _ _, two_keep HZA.out.1 HZA.out.2.1 _ _, HYA.out.2.2, HZA.out.2.2⟩⟩
        clear hb2
        refine hK.out _ _ trivial (fun _ => ?_)
        clear hK K
        try simp only [Act.put, List.setIfInBounds_toArray, List.set_cons_zero, List.set_cons_succ]
        refine wpAnyH_ready (rs := [4]) (by decide +kernel) (by simp) ?_
        refine AllReadyH.cons (o := { dst := none, op := Op.store 27 (Operand.tmp 2) (Operand.tmp 10), type := 0, pos := "law.go:71", after := #[{ on := 1, ground := Ground.data }, { on := 3, ground := Ground.chain }, { on := 0, ground := Ground.phase }, { on := 1, ground := Ground.phase }, { on := 2, ground := Ground.textOnly Departure.lateStores }, { on := 3, ground := Ground.textOnly Departure.lateStoresUnsure }], guard := none }) rfl (fun K hK => ?_) AllReadyH.nil
        rw [if_pos (by rfl)]
        refine wp_store_mid 27 (.tmp 2) (.tmp 10) rfl w.heap.size 0 (askV z1 ya yn yc) rfl rfl ?htrone13 ask_info22 HAL.out ?_
        case htrone13 => exact HTA.out
        clear HFA HFB HLW HTA
        generalize wy.setCells w.heap.size 0 (askV z1 ya yn yc).toList = wv at HTB HG ⊢
        simp only [Act.put]
        refine hK.out _ _ trivial (fun _ => ?_)
        clear hK K
        try simp only [Act.put, List.setIfInBounds_toArray, List.set_cons_zero, List.set_cons_succ]
        refine wpAnyH_ready (rs := [5]) (by decide +kernel) (by simp) ?_
        refine AllReadyH.cons (o := { dst := none, op := Op.store 27 (Operand.tmp 3) (Operand.tmp 12), type := 0, pos := "law.go:71", after := #[{ on := 3, ground := Ground.data }, { on := 4, ground := Ground.chain }, { on := 0, ground := Ground.phase }, { on := 1, ground := Ground.phase }, { on := 2, ground := Ground.phase }, { on := 3, ground := Ground.phase }, { on := 4, ground := Ground.phase }], guard := none }) rfl (fun K hK => ?_) AllReadyH.nil
        rw [if_pos (by rfl)]
        refine wp_store_mid 27 (.tmp 3) (.tmp 12) rfl (w.heap.size + 1) 0 (askV z2 za zn zc) rfl rfl ?htrone14 ask_info22 HAL2.out ?_
        case htrone14 => exact HTB.out
        simp only [Act.put]
        refine hK.out _ _ trivial (fun _ => ?_)
        clear hK K
        try simp only [Act.put, List.setIfInBounds_toArray, List.set_cons_zero, List.set_cons_succ]
        refine wpAnyH_done (by decide +kernel) ?_ _
        go_wp2_with fail
        go_meet
        exact ⟨ya, yn, yc, za, zn, zc, HG⟩
      · rw [if_pos (by rfl)]
        refine wp_load_mid 27 (.tmp 3) rfl (w.heap.size + 1) 0 rfl (askV b a1 n1 c1).toList _ (range_rowR HF.out.rb) Tryd.underlying27 rfl ask_info22 ?_
        refine hK.out _ _ trivial (fun _ => ?_)
        clear hK K
        try simp only [Act.put, List.setIfInBounds_toArray, List.set_cons_zero, List.set_cons_succ]
        refine wpAnyH_ready (rs := [1]) (by decide +kernel) (by simp) ?_
        refine AllReadyH.cons (o := { dst := some 10, op := Op.call { callee := Callee.value (Operand.func 12), args := #[Operand.tmp 9], argTypes := #[27] }, type := 27, pos := "law.go:71", after := #[{ on := 0, ground := Ground.data }], guard := none }) rfl (fun K hK => ?_) AllReadyH.nil
        go_simp
        refine (HCA.out _ HF.out.ia).mono ?_
        rintro e1 wz ⟨ya, yn, yc, rfl, hby, hny, hyn, hb1⟩
        have HYA : Bx (Bts wz ya yn yc z1.b ∧ (∀ p, ya = some p → w.heap.size + 2 ≤ p.block) ∧ yn ≤ 4200) := ⟨hby, fun p hp => Nat.le_trans HF.out.sz (hny p hp), hyn⟩
        replace HF : Bx (F2 w wz a a0 n0 c0 b a1 n1 c1) := ⟨HF.out.below hb1⟩
        clear hby hny hyn
        refine hK.out _ _ trivial (fun _ => ?_)
        clear hK K
        try simp only [Act.put, List.setIfInBounds_toArray, List.set_cons_zero, List.set_cons_succ]
        refine wpAnyH_ready (rs := [3]) (by decide +kernel) (by simp) ?_
        refine AllReadyH.cons (o := { dst := some 12, op := Op.call { callee := Callee.value (Operand.func 12), args := #[Operand.tmp 11], argTypes := #[27] }, type := 27, pos := "law.go:71", after := #[{ on := 2, ground := Ground.data }, { on := 1, ground := Ground.chain }], guard := none }) rfl (fun K hK => ?_) AllReadyH.nil
        go_simp
        refine (HCB.out _ HF.out.ib).mono ?_
        rintro e2 wy ⟨za, zn, zc, rfl, hbz, hnz, hzn, hb2⟩
        have HZA : Bx (Bts wy za zn zc z2.b ∧ (∀ p, za = some p → w.heap.size + 2 ≤ p.block) ∧ zn ≤ 4200) := ⟨hbz, fun p hp => Nat.le_trans HF.out.sz (hnz p hp), hzn⟩
        replace HYA : Bx (Bts wy ya yn yc z1.b ∧ (∀ p, ya = some p → w.heap.size + 2 ≤ p.block) ∧ yn ≤ 4200) := ⟨HYA.out.1.below hb2, HYA.out.2⟩
        replace HF : Bx (F2 w wy a a0 n0 c0 b a1 n1 c1) := ⟨HF.out.below hb2⟩
        have HTA : Bx (wy.there w.heap.size 0 6) := ⟨there_row HF.out.ra⟩
        have HAL := Bx.mk (askV_all z1 ya yn yc)
        have HAL2 := Bx.mk (askV_all z2 za zn zc)
        have HFA : Bx ((wy.setCells w.heap.size 0 (askV z1 ya yn yc).toList).heap[w.heap.size]? = some (.cells (askV z1 ya yn yc) 27 (0, 0))) := ⟨heap_stored HF.out.ra rfl⟩
        have HFB : Bx ((wy.setCells w.heap.size 0 (askV z1 ya yn yc).toList).heap[w.heap.size + 1]? = some (.cells (askV b a1 n1 c1) 27 (0, 0))) := ⟨(setCells_other (by omega) _ _).trans HF.out.rb⟩
        have HTB : Bx ((wy.setCells w.heap.size 0 (askV z1 ya yn yc).toList).there (w.heap.size + 1) 0 6) := ⟨there_row HFB.out⟩
        have HLW : Bx (Below w.heap.size w (wy.setCells w.heap.size 0 (askV z1 ya yn yc).toList)) := ⟨below_setCells HF.out.low _ (Nat.le_refl _) _ 0⟩
        have HG : Bx (G2 w ((wy.setCells w.heap.size 0 (askV z1 ya yn yc).toList).setCells (w.heap.size + 1) 0 (askV z2 za zn zc).toList) z1 ya yn yc z2 za zn zc) := ⟨⟨(setCells_other (by omega) _ _).trans HFA.out, heap_stored HFB.out rfl, below_setCells HLW.out _ (by omega) _ 0, two_keep HYA.out.1 HYA.out.2.1 _ _, two_keep HZA.out.1 HZA.out.2.1 _ _, HYA.out.2.2, HZA.out.2.2⟩⟩
        clear hb2
        refine hK.out _ _ trivial (fun _ => ?_)
        clear hK K
        try simp only [Act.put, List.setIfInBounds_toArray, List.set_cons_zero, List.set_cons_succ]
        refine wpAnyH_ready (rs := [4]) (by decide +kernel) (by simp) ?_
        refine AllReadyH.cons (o := { dst := none, op := Op.store 27 (Operand.tmp 2) (Operand.tmp 10), type := 0, pos := "law.go:71", after := #[{ on := 1, ground := Ground.data }, { on := 3, ground := Ground.chain }, { on := 0, ground := Ground.phase }, { on := 1, ground := Ground.phase }, { on := 2, ground := Ground.textOnly Departure.lateStores }, { on := 3, ground := Ground.textOnly Departure.lateStoresUnsure }], guard := none }) rfl (fun K hK => ?_) AllReadyH.nil
        rw [if_pos (by rfl)]
        refine wp_store_mid 27 (.tmp 2) (.tmp 10) rfl w.heap.size 0 (askV z1 ya yn yc) rfl rfl ?htrone16 ask_info22 HAL.out ?_
        case htrone16 => exact HTA.out
        clear HFA HFB HLW HTA
        generalize wy.setCells w.heap.size 0 (askV z1 ya yn yc).toList = wv at HTB HG ⊢
        simp only [Act.put]
        refine hK.out _ _ trivial (fun _ => ?_)
        clear hK K
        try simp only [Act.put, List.setIfInBounds_toArray, List.set_cons_zero, List.set_cons_succ]
        refine wpAnyH_ready (rs := [5]) (by decide +kernel) (by simp) ?_
        refine AllReadyH.cons (o := { dst := none, op := Op.store 27 (Operand.tmp 3) (Operand.tmp 12), type := 0, pos := "law.go:71", after := #[{ on := 3, ground := Ground.data }, { on := 4, ground := Ground.chain }, { on := 0, ground := Ground.phase }, { on := 1, ground := Ground.phase }, { on := 2, ground := Ground.phase }, { on := 3, ground := Ground.phase }, { on := 4, ground := Ground.phase }], guard := none }) rfl (fun K hK => ?_) AllReadyH.nil
        rw [if_pos (by rfl)]
        refine wp_store_mid 27 (.tmp 3) (.tmp 12) rfl (w.heap.size + 1) 0 (askV z2 za zn zc) rfl rfl ?htrone17 ask_info22 HAL2.out ?_
        case htrone17 => exact HTB.out
        simp only [Act.put]
        refine hK.out _ _ trivial (fun _ => ?_)
        clear hK K
        try simp only [Act.put, List.setIfInBounds_toArray, List.set_cons_zero, List.set_cons_succ]
        refine wpAnyH_done (by decide +kernel) ?_ _
        go_wp2_with fail
        go_meet
        exact ⟨ya, yn, yc, za, zn, zc, HG⟩
    · rw [if_pos (by rfl)]
      refine wp_load_mid 27 (.tmp 3) rfl (w.heap.size + 1) 0 rfl (askV b a1 n1 c1).toList _ (range_rowR HF.out.rb) Tryd.underlying27 rfl ask_info22 ?_
      refine hK.out _ _ trivial (fun _ => ?_)
      clear hK K
      try simp only [Act.put, List.setIfInBounds_toArray, List.set_cons_zero, List.set_cons_succ]
      refine wpAnyH_ready (rs := [0]) (by decide +kernel) (by simp) ?_
      refine AllReadyH.cons (o := { dst := some 9, op := Op.load 27 (Operand.tmp 2), type := 27, pos := "law.go:71", after := #[], guard := none }) rfl (fun K hK => ?_) AllReadyH.nil
      rw [if_pos (by rfl)]
      refine wp_load_mid 27 (.tmp 2) rfl w.heap.size 0 rfl (askV a a0 n0 c0).toList _ (range_rowR HF.out.ra) Tryd.underlying27 rfl ask_info22 ?_
      refine hK.out _ _ trivial (fun _ => ?_)
      clear hK K
      try simp only [Act.put, List.setIfInBounds_toArray, List.set_cons_zero, List.set_cons_succ]
      refine wpAnyH_ready (rs := [1]) (by decide +kernel) (by simp) ?_
      refine AllReadyH.cons (o := { dst := some 10, op := Op.call { callee := Callee.value (Operand.func 12), args := #[Operand.tmp 9], argTypes := #[27] }, type := 27, pos := "law.go:71", after := #[{ on := 0, ground := Ground.data }], guard := none }) rfl (fun K hK => ?_) AllReadyH.nil
      go_simp
      refine (HCA.out _ HF.out.ia).mono ?_
      rintro e1 wz ⟨ya, yn, yc, rfl, hby, hny, hyn, hb1⟩
      have HYA : Bx (Bts wz ya yn yc z1.b ∧ (∀ p, ya = some p → w.heap.size + 2 ≤ p.block) ∧ yn ≤ 4200) := ⟨hby, fun p hp => Nat.le_trans HF.out.sz (hny p hp), hyn⟩
      replace HF : Bx (F2 w wz a a0 n0 c0 b a1 n1 c1) := ⟨HF.out.below hb1⟩
      clear hby hny hyn
      refine hK.out _ _ trivial (fun _ => ?_)
      clear hK K
      try simp only [Act.put, List.setIfInBounds_toArray, List.set_cons_zero, List.set_cons_succ]
      refine wpAnyH_ready (rs := [3]) (by decide +kernel) (by simp) ?_
      refine AllReadyH.cons (o := { dst := some 12, op := Op.call { callee := Callee.value (Operand.func 12), args := #[Operand.tmp 11], argTypes := #[27] }, type := 27, pos := "law.go:71", after := #[{ on := 2, ground := Ground.data }, { on := 1, ground := Ground.chain }], guard := none }) rfl (fun K hK => ?_) AllReadyH.nil
      go_simp
      refine (HCB.out _ HF.out.ib).mono ?_
      rintro e2 wy ⟨za, zn, zc, rfl, hbz, hnz, hzn, hb2⟩
      have HZA : Bx (Bts wy za zn zc z2.b ∧ (∀ p, za = some p → w.heap.size + 2 ≤ p.block) ∧ zn ≤ 4200) := ⟨hbz, fun p hp => Nat.le_trans HF.out.sz (hnz p hp), hzn⟩
      replace HYA : Bx (Bts wy ya yn yc z1.b ∧ (∀ p, ya = some p → w.heap.size + 2 ≤ p.block) ∧ yn ≤ 4200) := ⟨HYA.out.1.below hb2, HYA.out.2⟩
      replace HF : Bx (F2 w wy a a0 n0 c0 b a1 n1 c1) := ⟨HF.out.below hb2⟩
      have HTA : Bx (wy.there w.heap.size 0 6) := ⟨there_row HF.out.ra⟩
      have HAL := Bx.mk (askV_all z1 ya yn yc)
      have HAL2 := Bx.mk (askV_all z2 za zn zc)
      have HFA : Bx ((wy.setCells w.heap.size 0 (askV z1 ya yn yc).toList).heap[w.heap.size]? = some (.cells (askV z1 ya yn yc) 27 (0, 0))) := ⟨heap_stored HF.out.ra rfl⟩
      have HFB : Bx ((wy.setCells w.heap.size 0 (askV z1 ya yn yc).toList).heap[w.heap.size + 1]? = some (.cells (askV b a1 n1 c1) 27 (0, 0))) := ⟨(setCells_other (by omega) _ _).trans HF.out.rb⟩
      have HTB : Bx ((wy.setCells w.heap.size 0 (askV z1 ya yn yc).toList).there (w.heap.size + 1) 0 6) := ⟨there_row HFB.out⟩
      have HLW : Bx (Below w.heap.size w (wy.setCells w.heap.size 0 (askV z1 ya yn yc).toList)) := ⟨below_setCells HF.out.low _ (Nat.le_refl _) _ 0⟩
      have HG : Bx (G2 w ((wy.setCells w.heap.size 0 (askV z1 ya yn yc).toList).setCells (w.heap.size + 1) 0 (askV z2 za zn zc).toList) z1 ya yn yc z2 za zn zc) := ⟨⟨(setCells_other (by omega) _ _).trans HFA.out, heap_stored HFB.out rfl, below_setCells HLW.out _ (by omega) _ 0, two_keep HYA.out.1 HYA.out.2.1 _ _, two_keep HZA.out.1 HZA.out.2.1 _ _, HYA.out.2.2, HZA.out.2.2⟩⟩
      clear hb2
      refine hK.out _ _ trivial (fun _ => ?_)
      clear hK K
      try simp only [Act.put, List.setIfInBounds_toArray, List.set_cons_zero, List.set_cons_succ]
      refine wpAnyH_ready (rs := [4]) (by decide +kernel) (by simp) ?_
      refine AllReadyH.cons (o := { dst := none, op := Op.store 27 (Operand.tmp 2) (Operand.tmp 10), type := 0, pos := "law.go:71", after := #[{ on := 1, ground := Ground.data }, { on := 3, ground := Ground.chain }, { on := 0, ground := Ground.phase }, { on := 1, ground := Ground.phase }, { on := 2, ground := Ground.textOnly Departure.lateStores }, { on := 3, ground := Ground.textOnly Departure.lateStoresUnsure }], guard := none }) rfl (fun K hK => ?_) AllReadyH.nil
      rw [if_pos (by rfl)]
      refine wp_store_mid 27 (.tmp 2) (.tmp 10) rfl w.heap.size 0 (askV z1 ya yn yc) rfl rfl ?htrone110 ask_info22 HAL.out ?_
      case htrone110 => exact HTA.out
      clear HFA HFB HLW HTA
      generalize wy.setCells w.heap.size 0 (askV z1 ya yn yc).toList = wv at HTB HG ⊢
      simp only [Act.put]
      refine hK.out _ _ trivial (fun _ => ?_)
      clear hK K
      try simp only [Act.put, List.setIfInBounds_toArray, List.set_cons_zero, List.set_cons_succ]
      refine wpAnyH_ready (rs := [5]) (by decide +kernel) (by simp) ?_
      refine AllReadyH.cons (o := { dst := none, op := Op.store 27 (Operand.tmp 3) (Operand.tmp 12), type := 0, pos := "law.go:71", after := #[{ on := 3, ground := Ground.data }, { on := 4, ground := Ground.chain }, { on := 0, ground := Ground.phase }, { on := 1, ground := Ground.phase }, { on := 2, ground := Ground.phase }, { on := 3, ground := Ground.phase }, { on := 4, ground := Ground.phase }], guard := none }) rfl (fun K hK => ?_) AllReadyH.nil
      rw [if_pos (by rfl)]
      refine wp_store_mid 27 (.tmp 3) (.tmp 12) rfl (w.heap.size + 1) 0 (askV z2 za zn zc) rfl rfl ?htrone111 ask_info22 HAL2.out ?_
      case htrone111 => exact HTB.out
      simp only [Act.put]
      refine hK.out _ _ trivial (fun _ => ?_)
      clear hK K
      try simp only [Act.put, List.setIfInBounds_toArray, List.set_cons_zero, List.set_cons_succ]
      refine wpAnyH_done (by decide +kernel) ?_ _
      go_wp2_with fail
      go_meet
      exact ⟨ya, yn, yc, za, zn, zc, HG⟩
  case rest =>
    obtain ⟨ya, yn, yc, za, zn, zc, HG⟩ := hcut
    have HEC : Bx (RtE wc) := ⟨HE0.out.below HG.out.low⟩
    have HRA := Bx.mk HG.out.ra
    clear HF0 HCA HCB HE0
    go_wp2_with (refine wpList_load_row rfl 27 (.tmp 2) rfl w.heap.size rfl 27 (askV z1 ya yn yc) (0, 0) _ HRA.out Tryd.underlying27 rfl ask_info22 ?_)
    refine (HPA.out _ _ _ _ HEC.out HG.out.ba HG.out.na).mono ?_
    rintro e w4 ⟨xa, xc, rfl, hox, hbx, hb4⟩
    have HP1 := prt_code z1
    have HP2 := prt_code z2
    have HEQ := @one_eq z1 z2
    generalize prtV z1 = T1 at *
    generalize prtV z2 = T2 at *
    obtain ⟨x, e1⟩ := T1
    obtain ⟨y, e2⟩ := T2
    dsimp only at hox hbx HP1 HP2 HEQ ⊢
    unfold reqV
    have hN5 := heap_alloc_new w4 (.cells #[.string x.m, .string x.t, .string x.k, .slice xa x.b.length xc] 24)
    have hNB5 : Below w4.heap.size w4 (w4.alloc (.cells #[.string x.m, .string x.t, .string x.k, .slice xa x.b.length xc] 24)) := (Below.refl _ _).alloc (Nat.le_refl _) _
    go_upto_region 3 with fail
    generalize hw5 : w4.alloc (.cells #[.string x.m, .string x.t, .string x.k, .slice xa x.b.length xc] 24) = w5 at *
    clear hw5
    have hbc5 := bstep hb4 hNB5
    have HG5 : Bx (G2 w w5 z1 ya yn yc z2 za zn zc) := ⟨HG.out.below hbc5⟩
    have HE5 : Bx (RtE w5) := ⟨HEC.out.below hbc5⟩
    have HX5 : Bx (w5.heap[w4.heap.size]? = some (.cells #[.string x.m, .string x.t, .string x.k, .slice xa x.b.length xc] 24 (0, 0))) := ⟨hN5⟩
    have HBX5 : Bx (Bts w5 xa x.b.length xc x.b) := ⟨(bts_own hox hbx).below hNB5⟩
    have HRB := Bx.mk HG5.out.rb
    clear hbc5 hN5 hNB5 hox hb4 HRA HEC HG HPA
    go_wp2_with (refine wpList_load_row rfl 27 (.tmp 3) rfl (w.heap.size + 1) rfl 27 (askV z2 za zn zc) (0, 0) _ HRB.out Tryd.underlying27 rfl ask_info22 ?_)
    refine (HPB.out _ _ _ _ HE5.out HG5.out.bb HG5.out.nb).mono ?_
    rintro e w8 ⟨qa, qc, rfl, hoq, hbq, hb8⟩
    dsimp only at hoq hbq ⊢
    unfold reqV
    have hN9 := heap_alloc_new w8 (.cells #[.string y.m, .string y.t, .string y.k, .slice qa y.b.length qc] 24)
    have hNB9 : Below w8.heap.size w8 (w8.alloc (.cells #[.string y.m, .string y.t, .string y.k, .slice qa y.b.length qc] 24)) := (Below.refl _ _).alloc (Nat.le_refl _) _
    go_upto_region 4 with fail
    generalize hw9 : w8.alloc (.cells #[.string y.m, .string y.t, .string y.k, .slice qa y.b.length qc] 24) = w9 at *
    clear hw9
    have hb59 := bstep hb8 hNB9
    have HG9 : Bx (G2 w w9 z1 ya yn yc z2 za zn zc) := ⟨HG5.out.below hb59⟩
    have HE9 : Bx (RtE w9) := ⟨HE5.out.below hb59⟩
    have HX9 : Bx (w9.heap[w4.heap.size]? = some (.cells #[.string x.m, .string x.t, .string x.k, .slice xa x.b.length xc] 24 (0, 0))) := ⟨(hb59.block _ (Array.getElem?_eq_some_iff.1 HX5.out).1).trans HX5.out⟩
    have HY9 : Bx (w9.heap[w8.heap.size]? = some (.cells #[.string y.m, .string y.t, .string y.k, .slice qa y.b.length qc] 24 (0, 0))) := ⟨hN9⟩
    have HBX9 : Bx (Bts w9 xa x.b.length xc x.b) := ⟨HBX5.out.below hb59⟩
    have HBY9 : Bx (Bts w9 qa y.b.length qc y.b) := ⟨(bts_own hoq hbq).below hNB9⟩
    clear hb59 hN9 hNB9 hoq hb8 HRB HE5 HG5 HPB HX5 HBX5
    have HLV : Bx (∀ W, Below w9.heap.size w9 W → Calls Tryd.prog 11 #[] W fun e w' => e = .returned (.bool true) ∧ Below W.heap.size W w') := ⟨fun W h => rtlives_any W (HE9.out.below h)⟩
    have HFIN : Bx (∀ W, Below w9.heap.size w9 W → Below w.heap.size w W) := ⟨fun W h => bstep HG9.out.low h⟩
    by_cases hz : e1 = 0 ∧ e2 = 0
    · have g1 : (e1 != 0) = false := by simp [hz.1]
      have g2 : (e2 != 0) = false := by simp [hz.2]
      have HQ : Bx (smW x y = asE z1 z2) := ⟨HEQ hz.1 hz.2⟩
      have HSX : Bx (∀ W, Below w9.heap.size w9 W → Calls Tryd.prog 10 #[.agg #[.string x.m, .string x.t, .string x.k, .slice xa x.b.length xc], .agg #[.string y.m, .string y.t, .string y.k, .slice qa y.b.length qc]] W fun e w' => e = .returned (.bool (asE z1 z2)) ∧ Below W.heap.size W w') := ⟨fun W h => by rw [← HQ.out]; exact rsame_any x y xa qa _ _ xc qc W (HBX9.out.below h) (HBY9.out.below h)⟩
      have HSA : Bx (∀ W, Below w9.heap.size w9 W → Calls Tryd.prog 9 #[.agg #[.int .i64 z1.k, .string z1.nm, .string z1.sp, .slice ya yn yc, .int .i64 z1.A, .int .i64 z1.B], .agg #[.int .i64 z2.k, .string z2.nm, .string z2.sp, .slice za zn zc, .int .i64 z2.A, .int .i64 z2.B]] W fun e w' => e = .returned (.bool (asE z1 z2)) ∧ Below W.heap.size W w') := ⟨fun W h => rfsame_any z1 z2 ya za yn zn yc zc W (HG9.out.ba.below h) (HG9.out.bb.below h)⟩
      have HA9 := Bx.mk HG9.out.ra
      have HB9 := Bx.mk HG9.out.rb
      unfold askV at HA9 HB9
      generalize asE z1 z2 = R at *
      have hRR : (R == R) = true := by simp
      clear HQ HEQ HP1 HP2 hz HG9 HE9 HBX9 HBY9
      have hk : Below w9.heap.size w9 w9.drew := (Below.refl _ _).drew
      go_upto_region 6 with fail
      refine wp_region_held_drew (S := fun W => Below w9.heap.size w9 W) (by kernel_rfl) hk (fun _ => ?_)
      generalize w9.drew = wk at hk ⊢
      refine wpAnyH_take (i := 0) (oi := { dst := some 30, op := Op.load 24 (Operand.tmp 5), type := 24, pos := "law.go:77", after := #[], guard := none }) (v := .agg ([.string x.m, .string x.t, .string x.k, .slice xa x.b.length xc]).toArray) rfl (by kernel_rfl) (by kernel_rfl) (by kernel_rfl) (fun _ _ _ h => h) (yieldsIf_load_mid (by rfl) 24 (.tmp 5) rfl w4.heap.size 0 rfl ([.string x.m, .string x.t, .string x.k, .slice xa x.b.length xc]) _ (fun W h => range_rowR ((h.block _ (Array.getElem?_eq_some_iff.1 HX9.out).1).trans HX9.out)) Tryd.underlying24 rfl req_info) hk ?_
      simp only [Act.put, List.setIfInBounds_toArray, List.set_cons_zero, List.set_cons_succ]
      refine wpAnyH_take (i := 1) (oi := { dst := some 31, op := Op.load 24 (Operand.tmp 7), type := 24, pos := "law.go:77", after := #[], guard := none }) (v := .agg ([.string y.m, .string y.t, .string y.k, .slice qa y.b.length qc]).toArray) rfl (by kernel_rfl) (by kernel_rfl) (by kernel_rfl) (fun _ _ _ h => h) (yieldsIf_load_mid (by rfl) 24 (.tmp 7) rfl w8.heap.size 0 rfl ([.string y.m, .string y.t, .string y.k, .slice qa y.b.length qc]) _ (fun W h => range_rowR ((h.block _ (Array.getElem?_eq_some_iff.1 HY9.out).1).trans HY9.out)) Tryd.underlying24 rfl req_info) hk ?_
      simp only [Act.put, List.setIfInBounds_toArray, List.set_cons_zero, List.set_cons_succ]
      refine wpAnyH_take (i := 3) (oi := { dst := some 33, op := Op.load 27 (Operand.tmp 2), type := 27, pos := "law.go:77", after := #[], guard := none }) (v := .agg ([.int .i64 z1.k, .string z1.nm, .string z1.sp, .slice ya yn yc, .int .i64 z1.A, .int .i64 z1.B]).toArray) rfl (by kernel_rfl) (by kernel_rfl) (by kernel_rfl) (fun _ _ _ h => h) (yieldsIf_load_mid (by rfl) 27 (.tmp 2) rfl w.heap.size 0 rfl ([.int .i64 z1.k, .string z1.nm, .string z1.sp, .slice ya yn yc, .int .i64 z1.A, .int .i64 z1.B]) _ (fun W h => range_rowR ((h.block _ (Array.getElem?_eq_some_iff.1 HA9.out).1).trans HA9.out)) Tryd.underlying27 rfl ask_info22) hk ?_
      simp only [Act.put, List.setIfInBounds_toArray, List.set_cons_zero, List.set_cons_succ]
      refine wpAnyH_take (i := 4) (oi := { dst := some 34, op := Op.load 27 (Operand.tmp 3), type := 27, pos := "law.go:77", after := #[], guard := none }) (v := .agg ([.int .i64 z2.k, .string z2.nm, .string z2.sp, .slice za zn zc, .int .i64 z2.A, .int .i64 z2.B]).toArray) rfl (by kernel_rfl) (by kernel_rfl) (by kernel_rfl) (fun _ _ _ h => h) (yieldsIf_load_mid (by rfl) 27 (.tmp 3) rfl (w.heap.size + 1) 0 rfl ([.int .i64 z2.k, .string z2.nm, .string z2.sp, .slice za zn zc, .int .i64 z2.A, .int .i64 z2.B]) _ (fun W h => range_rowR ((h.block _ (Array.getElem?_eq_some_iff.1 HB9.out).1).trans HB9.out)) Tryd.underlying27 rfl ask_info22) hk ?_
      simp only [Act.put, List.setIfInBounds_toArray, List.set_cons_zero, List.set_cons_succ]
      refine wpAnyH_ready (rs := [2]) (by decide +kernel) (by simp) ?_
      refine AllReadyH.cons (o := { dst := some 32, op := Op.call { callee := Callee.value (Operand.func 10), args := #[Operand.tmp 30, Operand.tmp 31], argTypes := #[24, 24] }, type := 4, pos := "law.go:77", after := #[{ on := 0, ground := Ground.data }, { on := 1, ground := Ground.data }], guard := none }) rfl (fun K hK => ?_) AllReadyH.nil
      go_simp
      refine (HSX.out _ hk).mono ?_
      rintro e1 wz ⟨rfl, hb1⟩
      replace hk := bstep hk hb1
      clear hb1
      refine hK.out _ _ hk (fun _ => ?_)
      clear hK K
      try simp only [Act.put, List.setIfInBounds_toArray, List.set_cons_zero, List.set_cons_succ]
      refine wpAnyH_ready (rs := [5]) (by decide +kernel) (by simp) ?_
      refine AllReadyH.cons (o := { dst := some 35, op := Op.call { callee := Callee.value (Operand.func 9), args := #[Operand.tmp 33, Operand.tmp 34], argTypes := #[27, 27] }, type := 4, pos := "law.go:77", after := #[{ on := 3, ground := Ground.data }, { on := 4, ground := Ground.data }, { on := 2, ground := Ground.chain }], guard := none }) rfl (fun K hK => ?_) AllReadyH.nil
      go_simp
      refine (HSA.out _ hk).mono ?_
      rintro e2 wy ⟨rfl, hb2⟩
      replace hk := bstep hk hb2
      clear hb2
      refine hK.out _ _ hk (fun _ => ?_)
      clear hK K
      try simp only [Act.put, List.setIfInBounds_toArray, List.set_cons_zero, List.set_cons_succ]
      refine wpAnyH_take (i := 6) (oi := { dst := some 36, op := Op.binOp BinOp.eql 4 (Operand.tmp 32) (Operand.tmp 35) 4, type := 4, pos := "law.go:77", after := #[{ on := 2, ground := Ground.data }, { on := 5, ground := Ground.data }], guard := none }) (v := ?vrone61) rfl (by kernel_rfl) (by kernel_rfl) (by kernel_rfl) (fun _ _ _ h => h) (Or.inl ⟨by rfl, ?yrone61⟩) hk ?rrone61
      case yrone61 => (intro w hSw; (try dsimp only at hSw); go_simp; first | done | with_reducible rfl)
      simp only [Act.put, List.setIfInBounds_toArray, List.set_cons_zero, List.set_cons_succ]
      refine wpAnyH_take (i := 7) (oi := { dst := some 37, op := Op.move (Operand.tmp 36), type := 4, pos := "law.go:77", after := #[{ on := 6, ground := Ground.data }, { on := 5, ground := Ground.chain }], guard := none }) (v := ?vrone62) rfl (by kernel_rfl) (by kernel_rfl) (by kernel_rfl) (fun _ _ _ h => h) (Or.inl ⟨by rfl, ?yrone62⟩) hk ?rrone62
      case yrone62 => (intro w hSw; (try dsimp only at hSw); go_simp; first | done | with_reducible rfl)
      simp only [Act.put, List.setIfInBounds_toArray, List.set_cons_zero, List.set_cons_succ]
      refine wpAnyH_ready (rs := [8]) (by decide +kernel) (by simp) ?_
      refine AllReadyH.cons (o := { dst := some 38, op := Op.call { callee := Callee.value (Operand.func 11), args := #[], argTypes := #[] }, type := 4, pos := "law.go:77", after := #[{ on := 7, ground := Ground.chain }, { on := 7, ground := Ground.guard }], guard := some (7, true) }) rfl (fun K hK => ?_) AllReadyH.nil
      go_simp
      refine (HLV.out _ hk).mono ?_
      rintro e3 wx ⟨rfl, hb3⟩
      replace hk := bstep hk hb3
      clear hb3
      refine hK.out _ _ hk (fun _ => ?_)
      clear hK K
      try simp only [Act.put, List.setIfInBounds_toArray, List.set_cons_zero, List.set_cons_succ]
      refine wpAnyH_take (i := 9) (oi := { dst := some 39, op := Op.pick (Operand.tmp 37) (Operand.tmp 38) (Operand.const (Value.bool false)), type := 4, pos := "law.go:77", after := #[{ on := 7, ground := Ground.data }, { on := 8, ground := Ground.data }], guard := none }) (v := ?vrone63) rfl (by kernel_rfl) (by kernel_rfl) (by kernel_rfl) (fun _ _ _ h => h) (Or.inl ⟨by rfl, ?yrone63⟩) hk ?rrone63
      case yrone63 => (intro w hSw; (try dsimp only at hSw); go_simp; first | done | with_reducible rfl)
      simp only [Act.put, List.setIfInBounds_toArray, List.set_cons_zero, List.set_cons_succ]
      refine wpAnyH_take (i := 10) (oi := { dst := some 4, op := Op.assign (Operand.tmp 39), type := 4, pos := "law.go:77", after := #[{ on := 9, ground := Ground.data }, { on := 8, ground := Ground.chain }, { on := 0, ground := Ground.phase }, { on := 1, ground := Ground.phase }, { on := 2, ground := Ground.phase }, { on := 3, ground := Ground.phase }, { on := 4, ground := Ground.phase }, { on := 5, ground := Ground.phase }, { on := 6, ground := Ground.phase }, { on := 7, ground := Ground.phase }, { on := 8, ground := Ground.phase }, { on := 9, ground := Ground.phase }], guard := none }) (v := ?vrone64) rfl (by kernel_rfl) (by kernel_rfl) (by kernel_rfl) (fun _ _ _ h => h) (Or.inl ⟨by rfl, ?yrone64⟩) hk ?rrone64
      case yrone64 => (intro w hSw; (try dsimp only at hSw); go_simp; first | done | with_reducible rfl)
      simp only [Act.put, List.setIfInBounds_toArray, List.set_cons_zero, List.set_cons_succ]
      refine wpAnyH_done (by decide +kernel) ?_ _
      go_wp2_with fail
      go_ret
      exact ⟨rfl, HFIN.out _ hk⟩
    · have hz2 : (e1 != 0) = true ∨ ((e1 != 0) = false ∧ (e2 != 0) = true) := by
        rcases HP1 with h1 | h1
        · rcases HP2 with h2 | h2
          · exact absurd ⟨h1, h2⟩ hz
          · exact .inr ⟨by simp [h1], by simp [h2]⟩
        · exact .inl (by simp [h1])
      have HLL := Bx.mk (HLV.out w9 (Below.refl _ _))
      clear HEQ HP1 HP2 hz HG9 HE9 HBX9 HBY9 HLV
      rcases hz2 with g1 | ⟨g1, g2⟩
      · go_wp2_with fail
        refine HLL.out.mono ?_
        rintro e w10 ⟨rfl, hb10⟩
        have hfin := HFIN.out _ hb10
        go_wp2_with fail
        go_ret
        exact ⟨rfl, hfin⟩
      · go_wp2_with fail
        refine HLL.out.mono ?_
        rintro e w10 ⟨rfl, hb10⟩
        have hfin := HFIN.out _ hb10
        go_wp2_with fail
        go_ret
        exact ⟨rfl, hfin⟩

set_option maxRecDepth 100000 in
/-- what the walk gives, for every argument and every world that holds the table -/
theorem contract (H : Type) (enc : TypeId × Value → H) (W : World) (base : Nat) (args : Array Value) (ds gs : List (DataW H)) (before : List MemPlace)
    (hval0 : ∀ (j : Nat) t v, Tryd.f5.params[j]? = some t → args[j]? = some v → Value.okWide Tryd.prog W .any base t v)
    (hW : DataW.Whole enc Tryd.prog Tryd.f5.params.toList Rows.routeOneSpec.vars false W args.toList ds gs before) (hL : laidMetH Tryd.prog Rows.routeOneRow.laid W) (hsh : W.ShapedOpen Tryd.prog) :
    Calls Tryd.prog 5 args W fun e W' => ∃ v, e = .returned v ∧ Rows.routeOneSpec.post enc Tryd.prog Tryd.f5 false true false false W args v W' := by
  have hval : ∀ (j : Nat) t v, Tryd.f5.params[j]? = some t → args[j]? = some v → Value.okWide Tryd.prog W .any base t v := hval0
  have hW' := hW
  obtain ⟨p, q, hA0, hV, rfl, hfz, hnd⟩ := hW
  have hA : DataW.TrodAll enc Tryd.prog W 0 (fun _ => true) true Tryd.f5.params.toList args.toList ds p := hA0
  rw [Tryd.params5] at hA hval
  obtain ⟨v0, vs0, d0, ds0, p0, q0, hargs, rfl, rfl, h0, r0⟩ := trodAll_cons hA
  obtain ⟨v1, vs1, d1, ds1, p1, q1, rfl, rfl, rfl, h1, r1⟩ := trodAll_cons r0
  obtain ⟨rfl, rfl, rfl⟩ := trodAll_nil r1
  obtain rfl : args = #[v0, v1] := by cases args; simp_all
  obtain ⟨rfl, rfl⟩ := trodVars_none hV
  have k0 := h0
  have lt0 : ∀ x ∈ p0, x.block < W.heap.size := by obtain ⟨m, hm⟩ := k0; exact DataW.trod_lt m _ _ _ hm
  have k1 := h1
  have lt1 : ∀ x ∈ p1, x.block < W.heap.size := by obtain ⟨m, hm⟩ := k1; exact DataW.trod_lt m _ _ _ hm
  obtain ⟨a, a0, n0, c0, rfl, ha⟩ := open_ask (hval 0 27 v0 rfl rfl) h0
  obtain ⟨b, a1, n1, c1, rfl, hb⟩ := open_ask (hval 1 27 v1 rfl rfl) h1
  clear hA0 hval0
  refine (walk a a0 n0 c0 b a1 n1 c1 W ha hb hL hsh).mono fun e W' ⟨he, bel⟩ => ?_
  subst he
  exact ⟨_, rfl, _, _, _, [], _, [], hW', trodAll_mk1 (shut_bool Tryd.underlying4 _), (trodAll_cons_mk (Below.trod laidOut (by kernel_rfl) (of_decide_eq_true (by kernel_rfl)) k0 bel lt0) (trodAll_cons_mk (Below.trod laidOut (by kernel_rfl) (of_decide_eq_true (by kernel_rfl)) k1 bel lt1) trodAll_mk0)), rfl, bel.frame _, fun h => by cases h⟩

set_option maxRecDepth 100000 in
theorem laid_met (os : Os) : laidMet Tryd.prog Rows.routeOneRow.laid ((World.doorLaid Tryd.prog 2000 os).forCall (fun _ _ => 0) ⟨#[], #[.agg (askV as0 none 0 0), .agg (askV as0 none 0 0)], []⟩).memory :=
  laidMet_of_run' 8 (by kernel_rfl) (by kernel_rfl)
set_option maxRecDepth 100000 in
theorem reads (os : Os) {H : Type} (enc : TypeId × Value → H) : ∃ places, DataW.whole enc Tryd.prog ((World.doorLaid Tryd.prog 2000 os).forCall (fun _ _ => 0) ⟨#[], #[.agg (askV as0 none 0 0), .agg (askV as0 none 0 0)], []⟩).memory Tryd.f5.params.toList Rows.routeOneSpec.vars false (#[.agg (askV as0 none 0 0), .agg (askV as0 none 0 0)] : Array Value).toList 8 = some ([.agg [.lit (.int .i64 0), .lit (.string []), .lit (.string []), .nil, .lit (.int .i64 0), .lit (.int .i64 0)], .agg [.lit (.int .i64 0), .lit (.string []), .lit (.string []), .nil, .lit (.int .i64 0), .lit (.int .i64 0)]], [], places) :=
  ⟨[], by kernel_rfl⟩
set_option maxRecDepth 100000 in
theorem lifted (os : Os) (started : os.Started) (H : Type) (enc : TypeId × Value → H) (F : Stop.Interp) :
    ReturnsInHanded {} Tryd.checked os 5 .any ((OpenSpec.ofChange Rows.routeOneSpec).preRow enc Tryd.prog Tryd.f5 Rows.routeOneRow.domain false Rows.routeOneRow.laid) (((OpenSpec.ofChange Rows.routeOneSpec).at F).post enc Tryd.prog Tryd.f5 false true false false) := by
  obtain ⟨places, hx⟩ := reads os enc
  refine returnsInHanded_of_row (C := Tryd.checked) (s := OpenSpec.ofChange Rows.routeOneSpec) own started (by kernel_rfl) Tryd.func5
    (witness_row_at (enc := enc) (C := Tryd.checked) false (World.doorLaid Tryd.prog 2000 os) #[.agg (askV as0 none 0 0), .agg (askV as0 none 0 0)] rfl (by kernel_rfl) (by kernel_rfl) (by kernel_rfl)
      (OpenSpec.preRow_of_cond 8 hx (by kernel_rfl) (fun k hk => by cases hk) (by kernel_rfl) (laid_met os))) ?_
  intro W base args ds gs before hval hW _ _ _ hL hsh _
  exact contract H enc W base args ds gs before hval hW hL hsh
theorem said : Rows.RouteOneSaid :=
  OpenClaim.holds_of_cond 5 Tryd.f5 rfl rfl rfl rfl rfl rfl rfl ⟨rfl, rfl, rfl, rfl, rfl⟩ rfl rfl rfl rfl rfl (by kernel_rfl) Tryd.func5 (by kernel_rfl)
    (of_decide_eq_true (by kernel_rfl)) (by unfold Func.isWrapper; first | (rw [if_pos (by decide +kernel)]; kernel_rfl) | (rw [if_neg (by decide +kernel)]; exact ⟨rfl, rfl⟩))
    (fun os started H enc _ F => by rw [OpenClaim.pre_eq_preRow]; exact lifted os started H enc F)
theorem plain (f : FuncId) (fn : Func) (hf : Tryd.pinned.checked.prog.funcNamed "inquest/inquestlaw23.RouteOne" = some f) (hfn : Tryd.pinned.checked.prog.funcs[f]? = some fn) :
    true = Tryd.pinned.checked.prog.looks [] ∧ ∀ (j : Nat) t, fn.params[j]? = some t → Tryd.pinned.checked.prog.wantsStandIn t = false := by
  obtain rfl : f = 5 := Option.some.inj ((show Tryd.prog.funcNamed "inquest/inquestlaw23.RouteOne" = some 5 by kernel_rfl).symm.trans hf) |>.symm
  obtain rfl : fn = Tryd.f5 := (Option.some.inj (Tryd.func5.symm.trans hfn)).symm
  refine ⟨by kernel_rfl, fun j t ht => ?_⟩
  rw [Tryd.params5] at ht
  have hall : ([27, 27].all fun u => !Tryd.prog.wantsStandIn u) = true := by kernel_rfl
  have hm : t ∈ [27, 27] := by simpa using Array.mem_of_getElem? ht
  exact (show Tryd.prog.wantsStandIn t = false by simpa using List.all_eq_true.1 hall t hm)
/-- the tied card -/
theorem card : Rows.RouteOneCardSaid :=
  Claim7.holds_tied_plain_at .later [] _ _ _ _ said (fun _ h => by cases h) (by kernel_rfl) (fun _ h => by cases h) routeOne_row_tie rfl ⟨rfl, rfl⟩ (by kernel_rfl) rfl plain (by kernel_rfl)
end Go.Proofs.YtpfijaojgeceeaaDoor.routeOne
namespace Go.Proofs.YtpfijaojgeceeaaDoor
theorem routeOne_holds : Rows.RouteOneCardSaid := routeOne.card
#print axioms routeOne_holds
end Go.Proofs.YtpfijaojgeceeaaDoor
