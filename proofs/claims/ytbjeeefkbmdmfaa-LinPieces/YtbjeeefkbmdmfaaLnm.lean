/- A task is made. What a task tells. The law's whole and lives. The law's lives. -/
import Derived.Test.YtbjeeefkbmdmfaaLnl
import Derived.Test.YtbjeeefkbmdmfaaLinMem
import Derived.Deep.MidRow
namespace Go.Proofs.Ytbjeeefkbmdmfaa
open Go.RowKit
set_option linter.unusedVariables false
open Go.MapKept Go.Maps

/-- all of it is new -/
structure NewD (N : Nat) (D : TD) : Prop where
  g : N ≤ D.g
  gm : N ≤ D.gm
  gc : N ≤ D.gc
  gM : N ≤ D.gM
  aO : 0 < D.n → ∀ p, D.aO = some p → N ≤ p.block
  aA : 0 < D.n → ∀ p, D.aA = some p → N ≤ p.block
/-- what New answers -/
def NwQ (l : List Ic) (fu bu : Int) (ops : List Opr) (w : World) (e : Ending) (w' : World) : Prop := ∃ D vF F M kd vO o, e = .returned (.tuple #[.pointer (some ⟨D.g, 0, none⟩), .int .i64 0]) ∧ (D.l = l ∧ D.fu = fu ∧ D.bu = bu ∧ D.ops = ops) ∧ TDK D ∧ NewD w.heap.size D ∧ TaT D w' vF 0 F M kd vO o ∧ Below w.heap.size w w'
set_option maxRecDepth 100000 in
theorem two_new18 (w : World) (A B : Obj) : ((w.alloc A).alloc B).heap[w.heap.size]? = some A ∧ ((w.alloc A).alloc B).heap[w.heap.size + 1]? = some B ∧ Below w.heap.size w ((w.alloc A).alloc B) := by
  have hb1 : Below w.heap.size w (w.alloc A) := (Below.refl _ _).alloc (Nat.le_refl _) _
  have hs : (w.alloc A).heap.size = w.heap.size + 1 := by simp
  have hb2 : Below (w.alloc A).heap.size (w.alloc A) ((w.alloc A).alloc B) := (Below.refl _ _).alloc (Nat.le_refl _) _
  have h2 := heap_alloc_new (w.alloc A) B
  rw [hs] at h2
  exact ⟨(hb2.block _ (by rw [hs]; omega)).trans (heap_alloc_new w A), h2, bstep hb1 hb2⟩
section
variable {aL a : Option Addr} {nL cL n c : Nat} {l : List Ic} {fu bu : Int} {ops : List Opr} {w : World}
set_option maxHeartbeats 4000000 in
set_option maxRecDepth 100000 in
theorem new18_no (hI : Ics w aL nL cL l) (h : Ors w a n c ops) (hne : linE l fu bu ops ≠ 0) :
    Calls Try.prog 11 #[.slice aL nL cL, .int .i64 fu, .int .i64 bu, .slice a n c] w fun e w' => e = .returned (.tuple #[.pointer none, .int .i64 (linE l fu bu ops)]) ∧ Below w.heap.size w w' := by
  have HLEN : Bx (ops.length = n) := ⟨h.len_eq⟩
  have HI := Bx.mk hI
  have H := Bx.mk h
  obtain ⟨r, HR⟩ : ∃ r, Bx (linE l fu bu ops = r) := ⟨_, ⟨rfl⟩⟩
  have HNE := Bx.mk hne
  rw [HR.out] at HNE ⊢
  have HD := HR.out
  unfold linE at HD
  clear hI h hne
  by_cases hc : (thr l).2.2 ≠ 0
  · rw [if_pos hc] at HD
    have HE := Bx.mk HD.symm
    have hq : ((thr l).2.2 != 0) = true := by simpa using hc
    have HC := Bx.mk hc
    clear HD hc
    go_enter Try.func11, Try.ntmps11
    go_wp2_with fail
    refine (vnew_no aL nL cL l w HI.out HC.out).mono ?_
    rintro e w1 ⟨rfl, hb1⟩
    have HB1 := Bx.mk hb1
    obtain ⟨y, HY⟩ : ∃ y, Bx ((thr l).2.2 = y) := ⟨_, ⟨rfl⟩⟩
    rw [HY.out] at hq HE ⊢
    clear hb1
    go_wp2_with fail
    go_ret2
    exact ⟨by rw [HE.out]; rfl, HB1.out⟩
  rw [if_neg hc] at HD
  have HC : Bx ((thr l).2.2 = 0) := ⟨Classical.byContradiction hc⟩
  clear hc
  have hln := HLEN.out
  go_enter Try.func11, Try.ntmps11
  go_wp2_with fail
  refine (vnew_yes aL nL cL l w HI.out HC.out).mono ?_
  rintro e w1 ⟨gm, gc, cc, rfl, hm, hgm, hgc, hb1⟩
  have HB1 := Bx.mk hb1
  have H1 := Bx.mk (H.out.below hb1)
  clear hb1 hm hgm hgc
  by_cases h1 : fu < 0
  · have HE : Bx (r = 2) := ⟨by rw [if_pos (by omega)] at HD; exact HD.symm⟩
    clear HD
    go_wp2_with fail
    go_ret2
    exact ⟨by rw [HE.out]; rfl, HB1.out⟩
  by_cases h2 : 10000 < fu
  · have HE : Bx (r = 2) := ⟨by rw [if_pos (by omega)] at HD; exact HD.symm⟩
    clear HD
    go_wp2_with fail
    go_ret2
    exact ⟨by rw [HE.out]; rfl, HB1.out⟩
  by_cases h3 : bu < 0
  · have HE : Bx (r = 2) := ⟨by rw [if_pos (by omega)] at HD; exact HD.symm⟩
    clear HD
    go_wp2_with fail
    go_ret2
    exact ⟨by rw [HE.out]; rfl, HB1.out⟩
  by_cases h4 : 1073741824 < bu
  · have HE : Bx (r = 2) := ⟨by rw [if_pos (by omega)] at HD; exact HD.symm⟩
    clear HD
    go_wp2_with fail
    go_ret2
    exact ⟨by rw [HE.out]; rfl, HB1.out⟩
  rw [if_neg (by omega)] at HD
  by_cases h5 : 64 < n
  · have HE : Bx (r = 5) := ⟨by rw [if_pos (by omega)] at HD; exact HD.symm⟩
    have h5I : (64 : Int) < (n : Int) := by omega
    clear HD hln
    go_wp2_with fail
    go_ret2
    exact ⟨by rw [HE.out]; rfl, HB1.out⟩
  rw [if_neg (by omega)] at HD
  have h5I : ¬ (64 : Int) < (n : Int) := by omega
  have HAN : Bx ((List.range ops.length).any (fun i => befO (opN ops i) (opN ops i)) = true ∧ r = 17) := ⟨by
    by_cases h6 : (List.range ops.length).any (fun i => befO (opN ops i) (opN ops i)) = true
    · rw [if_pos h6] at HD; exact ⟨h6, HD.symm⟩
    · rw [if_neg h6] at HD; exact absurd HD.symm HNE.out⟩
  clear HD hln
  go_wp2_with fail
  refine (contains18_any a n c ops _ H1.out).mono ?_
  rintro e w2 ⟨rfl, hb2⟩
  rw [HAN.out.1]
  have HB2 := Bx.mk (bstep HB1.out hb2)
  clear HB1
  have HB1 := HB2
  have HE : Bx (r = 17) := ⟨HAN.out.2⟩
  clear hb2
  go_wp2_with fail
  go_ret2
  exact ⟨by rw [HE.out]; rfl, HB1.out⟩
set_option maxHeartbeats 4000000 in
set_option maxRecDepth 100000 in
theorem new18_yes (hI : Ics w aL nL cL l) (hl : IcsK l) (h : Ors w a n c ops) (hO : OrsK ops) (hk : LinK l fu bu ops) :
    Calls Try.prog 11 #[.slice aL nL cL, .int .i64 fu, .int .i64 bu, .slice a n c] w (NwQ l fu bu ops w) := by
  have HLEN : Bx (ops.length = n) := ⟨h.len_eq⟩
  have HI := Bx.mk hI
  have H := Bx.mk h
  have HLK := Bx.mk hl
  have HOK := Bx.mk hO
  have HK := Bx.mk hk
  have hn64 : n ≤ 64 := by rw [← HLEN.out]; exact hk.few
  have h1 : ¬ fu < 0 := by have := hk.fuel; omega
  have h2 : ¬ 10000 < fu := by have := hk.fuel; omega
  have h3 : ¬ bu < 0 := by have := hk.bud; omega
  have h4 : ¬ 1073741824 < bu := by have := hk.bud; omega
  have h5I : ¬ (64 : Int) < (n : Int) := by omega
  clear hI hl h hO hk
  go_enter Try.func11, Try.ntmps11
  go_wp2_with fail
  refine (vnew_yes aL nL cL l w HI.out HK.out.code).mono ?_
  rintro e w1 ⟨gm, gc, cc, rfl, hm, hgm, hgc, hb1⟩
  have HM1 := Bx.mk hm
  have HG1 := Bx.mk (And.intro hgm hgc)
  have HB1 := Bx.mk hb1
  have H1 := Bx.mk (H.out.below hb1)
  clear hb1 hm hgm hgc
  go_wp2_with fail
  refine (contains18_any a n c ops _ H1.out).mono ?_
  rintro e w2 ⟨rfl, hb2⟩
  rw [lin_good HK.out.irr]
  have HM2 := Bx.mk (HM1.out.below hb2)
  have HB2 := Bx.mk (bstep HB1.out hb2)
  have H2 := Bx.mk (H1.out.below hb2)
  clear hb2 HM1 HB1 H1
  go_wp2_with fail
  refine (cloneO_any a n c ops _ H2.out (by omega)).mono ?_
  rintro e w3 ⟨v3, rfl, ho3, hb3⟩
  obtain ⟨a3, c3, rfl, hO3⟩ := Ls.of_owns orC_len ho3 HLEN.out
  have HN3 : Bx (0 < n → ∀ p, a3 = some p → w2.heap.size ≤ p.block ∧ p.block < w3.heap.size) := ⟨fun hp p e => by
    obtain ⟨g, cap, e2, h1, h2⟩ := owns_form ho3 hp
    cases e2; cases e; exact ⟨h1, h2⟩⟩
  have HO3 := Bx.mk hO3
  have HM3 := Bx.mk (HM2.out.below hb3)
  have HB3 := Bx.mk (bstep HB2.out hb3)
  have H3 := Bx.mk (H2.out.below hb3)
  have HS3 := Bx.mk HB2.out.size
  clear hb3 ho3 hO3 HM2 HB2 H2
  go_wp2_with fail
  refine (done18_any a n c ops _ H3.out hn64).mono ?_
  rintro e w4 ⟨rfl, hb4⟩
  have HDN : Bx (bsF (dnF ops) n < 2 ^ n ∧ ∀ i, i < n → (bsF (dnF ops) n).testBit i = (opN ops i).d) := ⟨bsF_lt _ _, fun i hi => bsF_bit _ _ _ hi⟩
  obtain ⟨dn, HDE⟩ : ∃ dn, Bx (bsF (dnF ops) n = dn) := ⟨_, ⟨rfl⟩⟩
  rw [HDE.out] at HDN ⊢
  have HO4 := Bx.mk (HO3.out.below hb4)
  have HM4 := Bx.mk (HM3.out.below hb4)
  have HB4 := Bx.mk (bstep HB3.out hb4)
  have H4 := Bx.mk (H3.out.below hb4)
  have HS4 := Bx.mk hb4.size
  clear hb4 HM3 HB3 H3 HDE
  go_wp2_with fail
  refine (ahead18_any a n c ops _ H4.out hn64).mono ?_
  rintro e w5 ⟨gA, rfl, hgA, hoA, hb5⟩
  have HGA : Bx (w4.heap.size ≤ gA ∧ gA < w5.heap.size) := ⟨hgA, (hoA.lt gA rfl).2⟩
  obtain ⟨aA, cA, eA, hA5⟩ := Ls.of_owns seC_len hoA (AhL_len _ _ _ _)
  cases eA
  have HA5 := Bx.mk hA5
  have HO5 := Bx.mk (HO4.out.below hb5)
  have HM5 := Bx.mk (HM4.out.below hb5)
  have HB5 := Bx.mk (bstep HB4.out hb5)
  have HS5 := Bx.mk hb5.size
  have HSW := Bx.mk HB4.out.size
  clear hb5 hA5 hoA hgA HM4 HB4 H4 HO3 HO4
  have hmm : ∀ W, (Instr.makeMap 64 none).run Try.prog W = .ok (.map (some W.heap.size)) (W.alloc (.map #[] 0)) := fun W => rfl
  obtain ⟨gM, HGM⟩ : ∃ gM, Bx (w5.heap.size = gM) := ⟨_, ⟨rfl⟩⟩
  obtain ⟨D, HD⟩ : ∃ D, Bx (D = (⟨gM + 1, gm, gc, cc, fu, bu, a3, n, c3, dn, some ⟨gA, 0, none⟩, n, gM, l, ops, AhL ops n n 0⟩ : TD)) := ⟨_, ⟨rfl⟩⟩
  obtain ⟨r1, r2, hb7⟩ := two_new18 w5 (.map #[] 0) (.cells #[.pointer (some ⟨gm, 0, none⟩), .int .i64 fu, .int .i64 bu, .slice a3 n c3, .int .u64 (dn : Nat), .slice (some ⟨gA, 0, none⟩) n n, .map (some w5.heap.size), .slice none 0 0, .int .i64 0, .int .i64 0, .slice none 0 0] 67)
  have HDK : Bx (TDK D) := ⟨by
    have hS3 := HS3.out; have hS4 := HS4.out; have hS5 := HS5.out; have hM := HM5.out.lt; have hG := HGM.out
    rw [HD.out]
    exact ⟨HLK.out, HOK.out, HK.out.fuel, HK.out.bud, hn64, HLEN.out, HDN.out, fun i hi => by
      have e : (AhL ops n n 0).getD i 0 = ahN ops i n := by rw [List.getD_eq_getElem?_getD, AhL_get hi, if_pos hi]; rfl
      show (AhL ops n n 0).getD i 0 < 2 ^ n ∧ ∀ k, k < n → ((AhL ops n n 0).getD i 0).testBit k = _
      rw [e]
      exact ⟨bsF_lt _ _, fun k hk => bsF_bit _ _ _ hk⟩, ⟨by show gm < gM + 1; omega, by show gc < gM + 1; omega, by show gM < gM + 1; omega⟩, fun hp p e => by have := HN3.out hp p e; show p.block < gM + 1; omega, fun hp p e => by
        have := HGA.out
        cases e
        show gA < gM + 1; omega⟩⟩
  have HND : Bx (NewD w.heap.size D) := ⟨by
    have hB5 := HB5.out.size; have hS3 := HS3.out; have hS4 := HS4.out; have hG := HGM.out; have hG1 := HG1.out; have hGA := HGA.out
    rw [HD.out]
    exact ⟨by show w.heap.size ≤ gM + 1; omega, hG1.1, hG1.2, by show w.heap.size ≤ gM; omega, fun hp p e => by have := HN3.out hp p e; omega, fun hp p e => by cases e; show w.heap.size ≤ gA; have := HSW.out; omega⟩⟩
  have HT7 : Bx (Tm D ((w5.alloc (.map #[] 0)).alloc (.cells #[.pointer (some ⟨gm, 0, none⟩), .int .i64 fu, .int .i64 bu, .slice a3 n c3, .int .u64 (dn : Nat), .slice (some ⟨gA, 0, none⟩) n n, .map (some w5.heap.size), .slice none 0 0, .int .i64 0, .int .i64 0, .slice none 0 0] 67)) (.slice none 0 0) [] [] 0 0 (.slice none 0 0) []) := ⟨by
    rw [HD.out, ← HGM.out]
    exact ⟨r2, HM5.out.below hb7, HO5.out.below hb7, HA5.out.below hb7, ⟨#[], 0, r1, Km.nil⟩, World.ownsRow_nil _ _ _ _, World.ownsRow_nil _ _ _ _⟩⟩
  have HB7 := Bx.mk (bstep HB5.out hb7)
  have HDP : Bx (D.l = l ∧ D.fu = fu ∧ D.bu = bu ∧ D.ops = ops) := ⟨by rw [HD.out]; exact ⟨rfl, rfl, rfl, rfl⟩⟩
  have HDG : Bx (D.g = gM + 1) := ⟨by rw [HD.out]⟩
  clear r1 r2 hb7 HD HO5 HA5 HM5 HB5
  go_upto_region 11 with fail
  rw [HGM.out] at HT7 HB7 ⊢
  rw [← HDG.out]
  generalize (w5.alloc (.map #[] 0)).alloc (.cells #[.pointer (some ⟨gm, 0, none⟩), .int .i64 fu, .int .i64 bu, .slice a3 n c3, .int .u64 (dn : Nat), .slice (some ⟨gA, 0, none⟩) n n, .map (some gM), .slice none 0 0, .int .i64 0, .int .i64 0, .slice none 0 0] 67) = w7 at HT7 HB7 ⊢
  clear hmm
  go_wp2_with fail
  refine (enter_any HT7.out HDK.out (fun y hy => by cases hy) (by simp) 0 0 0 0 0 (psk_zero _) (by simp)).mono ?_
  rintro e w8 ⟨vF8, rfl, ht8, hk8, ha8⟩
  have HT8 := Bx.mk ht8
  have HB8 : Bx (Below w.heap.size w w8) := ⟨HB7.out.trans (hk8.low (B := w.heap.size) (fun j e => by
    rcases e with e | e | e
    · rw [e]; exact HND.out.g
    · rw [e]; exact HND.out.gM
    · cases e) HB7.out.size)⟩
  have HP8 : Bx (Pre (tS D) (sqS (tS D) (tP D) 0) [] ⟨0, [0, 0, 0, 0], 0⟩ [(0, [0, 0, 0, 0])] 0) := ⟨pre_beg (ps_zero _)⟩
  have HO8 : Bx (TOk D [] ⟨0, [0, 0, 0, 0], 0⟩ [(0, [0, 0, 0, 0])] 0) := ⟨⟨fun y hy => by rw [List.mem_singleton.1 hy]; exact psk_zero _, fun y hy => (by cases hy), psk_zero _, Nat.zero_le _, Nat.le_refl _⟩⟩
  have HBU : Bx (((0 : Nat) : Int) ≤ D.bu) := ⟨HDK.out.bu.1⟩
  clear ht8 hk8 ha8 HT7 HB7
  go_wp2_with fail
  refine (settle_any HT8.out HDK.out HBU.out HP8.out HO8.out).mono ?_
  rintro e w9 ⟨vF9, rfl, ⟨F9, M9, kd9, vO9, o9, hs9⟩, hk9, ha9⟩
  have HS9 := Bx.mk (ta_of HDK.out tk_zero hs9)
  have HB9 : Bx (Below w.heap.size w w9) := ⟨HB8.out.trans (hk9.low (B := w.heap.size) (fun j e => by
    rcases e with e | e | e
    · rw [e]; exact HND.out.g
    · rw [e]; exact HND.out.gM
    · have h1 := (HT8.out.ltF j e).1
      have h2 := HND.out.g
      omega) HB8.out.size)⟩
  clear hs9 hk9 ha9
  go_wp2_with fail
  go_ret2
  exact ⟨D, _, _, _, _, _, _, rfl, HDP.out, HDK.out, HND.out, HS9.out, HB9.out⟩
end
end Go.Proofs.Ytbjeeefkbmdmfaa
namespace Go.Proofs.Ytbjeeefkbmdmfaa
open Go.RowKit
set_option linter.unusedVariables false
open Go.MapKept Go.Maps

set_option maxRecDepth 100000 in
theorem way_len {P : Type} {s : Sr P} (ok : SrOk s) {p0 : P} {o : List Nat} {p : P} (h : Way s p0 o p) : o.length + s.rank p ≤ s.rank p0 :=
  way_ind (M := fun o p => o.length + s.rank p ≤ s.rank p0) (by simp) (fun o p q i _ hf hq ih => by
    have := ok.down p i q hf hq
    rw [List.length_append]
    simp only [List.length_cons, List.length_nil]
    omega) h
set_option maxRecDepth 100000 in
theorem vd_len (l : List Ic) (fu bu : Int) (ops : List Opr) : (vdR l fu bu ops).o.length ≤ ops.length := by
  have h := gs_told (srO_ok (l := l) (f := fu) (ops := ops)) (B := bu.toNat) (p0 := po0 ops.length) (po0 ops.length) [] [] 0 Way.nil
  rcases h.2.2 with ⟨_, h1⟩ | ⟨_, q, h1, _⟩ | ⟨_, h1, _⟩ | ⟨_, h1, _⟩
  · unfold vdR; rw [h1]; exact Nat.zero_le _
  · have := way_len srO_ok h1
    have h2 := rank0 (l := l) (f := fu) (ops := ops)
    unfold vdR
    omega
  · unfold vdR; rw [h1]; exact Nat.zero_le _
  · unfold vdR; rw [h1]; exact Nat.zero_le _
set_option maxRecDepth 100000 in
theorem vd_size18 : (Try.prog.info? 39).map (·.size) = some 3 := by kernel_rfl
set_option maxRecDepth 100000 in
theorem vd_one18 (k t : Int) (a : Option Addr) (n c : Nat) : (#[Value.int .i64 k, .slice a n c, .int .i64 t]).all (·.oneCell') = true := by simp [Value.oneCell']
/-- what is told when it is over -/
def VerP (kd : Int) (t : Nat) (o : List Nat) (w : World) (e : Ending) (w' : World) : Prop := ∃ a c, e = .returned (.tuple #[.agg #[.int .i64 kd, .slice a o.length c, .int .i64 (t : Nat)], .bool true]) ∧ w'.ownsRow w.heap.size 3 1 (.slice a o.length c) o.length ((orI o).flatMap ivC) ∧ Below w.heap.size w w'
section
variable {D : TD} {w : World} {vF : Value} {F : List Fr} {M : List Ps} {t : Nat} {kd : Int} {vO : Value} {o : List Nat}
set_option maxHeartbeats 4000000 in
set_option maxRecDepth 100000 in
theorem ver_open (h : Tm D w vF F M t 0 vO o) :
    Calls Try.prog 17 #[.pointer (some ⟨D.g, 0, none⟩)] w fun e w' => e = .returned (.tuple #[.agg #[.int .i64 0, .slice none 0 0, .int .i64 0], .bool false]) ∧ Below w.heap.size w w' := by
  have hb0 : Below w.heap.size w (w.alloc (.cells #[.int .i64 0, .slice none 0 0, .int .i64 0] 39)) := (Below.refl _ _).alloc (Nat.le_refl _) _
  have HT := Bx.mk (h.below hb0)
  have HB0 := Bx.mk hb0
  have HR0 := Bx.mk (heap_alloc_new w (.cells #[.int .i64 0, .slice none 0 0, .int .i64 0] 39))
  obtain ⟨gr, HGR⟩ : ∃ gr, Bx (w.heap.size = gr) := ⟨_, ⟨rfl⟩⟩
  rw [HGR.out] at HR0
  clear h hb0
  go_enter Try.func17, Try.ntmps17
  go_upto_region 1 with fail
  rw [HGR.out]
  generalize w.alloc (.cells #[.int .i64 0, .slice none 0 0, .int .i64 0] 39) = w1 at HT HB0 HR0 ⊢
  go_wp2_with fail
  refine (over_any HT.out).mono ?_
  rintro e w2 ⟨rfl, hw2⟩
  subst hw2
  have x0 := cell_of_row _ gr 0 _ _ (0, 0) HR0.out
  have x1 := cell_of_row _ gr 1 _ _ (0, 0) HR0.out
  have x2 := cell_of_row _ gr 2 _ _ (0, 0) HR0.out
  have f0 := frozen_of_row _ gr 0 _ _ HR0.out
  have f1 := frozen_of_row _ gr 1 _ _ HR0.out
  have f2 := frozen_of_row _ gr 2 _ _ HR0.out
  have HBE := Bx.mk (((HB0.out.setCell (p := ⟨gr, 0, none⟩) (by rw [HGR.out]; exact Nat.le_refl _) (.int .i64 0)).setCell (p := ⟨gr, 1, none⟩) (by rw [HGR.out]; exact Nat.le_refl _) (.slice none 0 0)).setCell (p := ⟨gr, 2, none⟩) (by rw [HGR.out]; exact Nat.le_refl _) (.int .i64 0))
  go_wp2_with fail
  exact bodyPost_ret (v := .tuple #[.agg #[.int .i64 0, .slice none 0 0, .int .i64 0], .bool false]) (by simp [results, Try.results17, go_sem, x0, x1, x2]) rfl ⟨rfl, HBE.out⟩
set_option maxHeartbeats 4000000 in
set_option maxRecDepth 100000 in
theorem ver_over (h : Tm D w vF F M t kd vO o) (hk : TDK D) (hkd : kd ≠ 0) (ho : o.length ≤ 64) :
    Calls Try.prog 17 #[.pointer (some ⟨D.g, 0, none⟩)] w (VerP kd t o w) := by
  have hb0 : Below w.heap.size w (w.alloc (.cells #[.int .i64 0, .slice none 0 0, .int .i64 0] 39)) := (Below.refl _ _).alloc (Nat.le_refl _) _
  have HDK := Bx.mk hk
  have HM64 : Bx (o.length ≤ 1000000) := ⟨by omega⟩
  have HLO : Bx (D.g < w.heap.size ∧ (∀ j, vF.ownBlock = some j → j < w.heap.size) ∧ (∀ j, vO.ownBlock = some j → j < w.heap.size)) := ⟨h.lt, fun j e => (h.ltF j e).2, fun j e => (h.od.lt j e).2⟩
  obtain ⟨aO, cO, rfl⟩ := own_sl18 h.od
  obtain ⟨m, HMM⟩ : ∃ m, Bx (o.length = m) := ⟨_, ⟨rfl⟩⟩
  have HOI : Bx (∀ W, Tm D W vF F M t kd (.slice aO m cO) o → Ivs W aO m cO (orI o)) := ⟨fun W hW => by
    have h1 := hW.od
    rw [HMM.out] at h1
    obtain ⟨a, c, e, h2⟩ := Ls.of_owns ivC_len h1 (by rw [orI_len, HMM.out])
    cases e; exact h2⟩
  have HT := Bx.mk (h.below hb0)
  have HB0 := Bx.mk hb0
  have HR0 := Bx.mk (heap_alloc_new w (.cells #[.int .i64 0, .slice none 0 0, .int .i64 0] 39))
  obtain ⟨gr, HGE⟩ : ∃ gr, Bx (w.heap.size = gr) := ⟨_, ⟨rfl⟩⟩
  have HGR : Bx (w.heap.size ≤ gr) := ⟨by rw [HGE.out]; exact Nat.le_refl _⟩
  rw [HGE.out] at HR0
  have hqd : decide (kd ≠ 0) = true := decide_eq_true hkd
  have HVP : Bx (∀ e w', (∃ a c, e = .returned (.tuple #[.agg #[.int .i64 kd, .slice a m c, .int .i64 (t : Nat)], .bool true]) ∧ w'.ownsRow w.heap.size 3 1 (.slice a m c) m ((orI o).flatMap ivC) ∧ Below w.heap.size w w') → VerP kd t o w e w') := ⟨fun e w' hx => by unfold VerP; rw [HMM.out]; exact hx⟩
  rw [HMM.out] at HT HLO HM64
  clear h hb0 hk hkd ho
  go_enter Try.func17, Try.ntmps17
  go_upto_region 1 with fail
  rw [HGE.out]
  generalize w.alloc (.cells #[.int .i64 0, .slice none 0 0, .int .i64 0] 39) = w1 at HT HB0 HR0 ⊢
  go_wp2_with fail
  refine (over_any HT.out).mono ?_
  rintro e w2 ⟨rfl, hw2⟩
  subst hw2
  rw [hqd]
  clear hqd
  go_upto_region 3 with fail
  obtain ⟨w1, hw1⟩ : ∃ w1, w1 = w2 := ⟨_, rfl⟩
  subst hw1
  have hk : Tm D w1.drew vF F M t kd (.slice aO m cO) o ∧ Below w.heap.size w w1.drew := ⟨HT.out.below (Below.refl _ _).drew, HB0.out.drew⟩
  have hz : w1.drew.heap[gr]? = some (.cells #[.int .i64 0, .slice none 0 0, .int .i64 0] 39 (0, 0)) := HR0.out
  clear HT HB0 HR0
  refine wp_region_held_drew (S := fun W => Tm D W vF F M t kd (.slice aO m cO) o ∧ Below w.heap.size w W) (by kernel_rfl) hk (fun _ => ?_)
  generalize w1.drew = wk at hk hz ⊢
  refine wpAnyH_take (i := 0) (oi := { dst := some 8, op := Op.move (Operand.tmp 0), type := 26, pos := "lin.go:80", after := #[], guard := none }) (v := ?vtvd31) rfl (by kernel_rfl) (by kernel_rfl) (by kernel_rfl) (fun _ _ _ h => h) (Or.inl ⟨by rfl, ?ytvd31⟩) hk ?rtvd31
  case ytvd31 => (intro w hSw; (try dsimp only at hSw); go_simp; first | done | with_reducible rfl)
  simp only [Act.put, List.setIfInBounds_toArray, List.set_cons_zero, List.set_cons_succ]
  refine wpAnyH_take (i := 1) (oi := { dst := some 9, op := Op.nilCheck (Operand.tmp 8), type := 0, pos := "lin.go:80", after := #[{ on := 0, ground := Ground.data }], guard := none }) (v := ?vtvd32) rfl (by kernel_rfl) (by kernel_rfl) (by kernel_rfl) (fun _ _ _ h => h) (Or.inl ⟨by rfl, ?ytvd32⟩) hk ?rtvd32
  case ytvd32 => (intro w hSw; (try dsimp only at hSw); go_simp; first | done | with_reducible rfl)
  simp only [Act.put, List.setIfInBounds_toArray, List.set_cons_zero, List.set_cons_succ]
  refine wpAnyH_take (i := 2) (oi := { dst := some 10, op := Op.fieldAddr 67 (Operand.tmp 9) 9, type := 0, pos := "lin.go:80", after := #[{ on := 1, ground := Ground.data }], guard := none }) (v := ?vtvd33) rfl (by kernel_rfl) (by kernel_rfl) (by kernel_rfl) (fun _ _ _ h => h) (Or.inl ⟨by rfl, ?ytvd33⟩) hk ?rtvd33
  case ytvd33 => (intro w hSw; (try dsimp only at hSw); go_simp; first | done | with_reducible rfl)
  simp only [Act.put, List.setIfInBounds_toArray, List.set_cons_zero, List.set_cons_succ]
  refine wpAnyH_take (i := 3) (oi := { dst := some 11, op := Op.load 3 (Operand.tmp 10), type := 3, pos := "lin.go:80", after := #[{ on := 2, ground := Ground.data }], guard := none }) (v := ?vtvd34) rfl (by kernel_rfl) (by kernel_rfl) (by kernel_rfl) (fun _ _ _ h => h) (Or.inl ⟨by rfl, ?ytvd34⟩) hk ?rtvd34
  case ytvd34 => (intro w hSw; have hcw := hSw.1.cells.2.2.2.2.2.2.2.2.2.1; clear hSw; go_simp; first | done | with_reducible rfl)
  simp only [Act.put, List.setIfInBounds_toArray, List.set_cons_zero, List.set_cons_succ]
  refine wpAnyH_take (i := 4) (oi := { dst := some 12, op := Op.move (Operand.tmp 0), type := 26, pos := "lin.go:80", after := #[], guard := none }) (v := ?vtvd35) rfl (by kernel_rfl) (by kernel_rfl) (by kernel_rfl) (fun _ _ _ h => h) (Or.inl ⟨by rfl, ?ytvd35⟩) hk ?rtvd35
  case ytvd35 => (intro w hSw; (try dsimp only at hSw); go_simp; first | done | with_reducible rfl)
  simp only [Act.put, List.setIfInBounds_toArray, List.set_cons_zero, List.set_cons_succ]
  refine wpAnyH_take (i := 5) (oi := { dst := some 13, op := Op.nilCheck (Operand.tmp 12), type := 0, pos := "lin.go:80", after := #[{ on := 4, ground := Ground.data }], guard := none }) (v := ?vtvd36) rfl (by kernel_rfl) (by kernel_rfl) (by kernel_rfl) (fun _ _ _ h => h) (Or.inl ⟨by rfl, ?ytvd36⟩) hk ?rtvd36
  case ytvd36 => (intro w hSw; (try dsimp only at hSw); go_simp; first | done | with_reducible rfl)
  simp only [Act.put, List.setIfInBounds_toArray, List.set_cons_zero, List.set_cons_succ]
  refine wpAnyH_take (i := 6) (oi := { dst := some 14, op := Op.fieldAddr 67 (Operand.tmp 13) 10, type := 0, pos := "lin.go:80", after := #[{ on := 5, ground := Ground.data }], guard := none }) (v := ?vtvd37) rfl (by kernel_rfl) (by kernel_rfl) (by kernel_rfl) (fun _ _ _ h => h) (Or.inl ⟨by rfl, ?ytvd37⟩) hk ?rtvd37
  case ytvd37 => (intro w hSw; (try dsimp only at hSw); go_simp; first | done | with_reducible rfl)
  simp only [Act.put, List.setIfInBounds_toArray, List.set_cons_zero, List.set_cons_succ]
  refine wpAnyH_take (i := 7) (oi := { dst := some 15, op := Op.load 37 (Operand.tmp 14), type := 37, pos := "lin.go:80", after := #[{ on := 6, ground := Ground.data }], guard := none }) (v := ?vtvd38) rfl (by kernel_rfl) (by kernel_rfl) (by kernel_rfl) (fun _ _ _ h => h) (Or.inl ⟨by rfl, ?ytvd38⟩) hk ?rtvd38
  case ytvd38 => (intro w hSw; have hcw := hSw.1.cells.2.2.2.2.2.2.2.2.2.2; clear hSw; go_simp; first | done | with_reducible rfl)
  simp only [Act.put, List.setIfInBounds_toArray, List.set_cons_zero, List.set_cons_succ]
  refine wpAnyH_take (i := 9) (oi := { dst := some 17, op := Op.move (Operand.tmp 0), type := 26, pos := "lin.go:80", after := #[], guard := none }) (v := ?vtvd39) rfl (by kernel_rfl) (by kernel_rfl) (by kernel_rfl) (fun _ _ _ h => h) (Or.inl ⟨by rfl, ?ytvd39⟩) hk ?rtvd39
  case ytvd39 => (intro w hSw; (try dsimp only at hSw); go_simp; first | done | with_reducible rfl)
  simp only [Act.put, List.setIfInBounds_toArray, List.set_cons_zero, List.set_cons_succ]
  refine wpAnyH_take (i := 10) (oi := { dst := some 18, op := Op.nilCheck (Operand.tmp 17), type := 0, pos := "lin.go:80", after := #[{ on := 9, ground := Ground.data }], guard := none }) (v := ?vtvd310) rfl (by kernel_rfl) (by kernel_rfl) (by kernel_rfl) (fun _ _ _ h => h) (Or.inl ⟨by rfl, ?ytvd310⟩) hk ?rtvd310
  case ytvd310 => (intro w hSw; (try dsimp only at hSw); go_simp; first | done | with_reducible rfl)
  simp only [Act.put, List.setIfInBounds_toArray, List.set_cons_zero, List.set_cons_succ]
  refine wpAnyH_take (i := 11) (oi := { dst := some 19, op := Op.fieldAddr 67 (Operand.tmp 18) 8, type := 0, pos := "lin.go:80", after := #[{ on := 10, ground := Ground.data }], guard := none }) (v := ?vtvd311) rfl (by kernel_rfl) (by kernel_rfl) (by kernel_rfl) (fun _ _ _ h => h) (Or.inl ⟨by rfl, ?ytvd311⟩) hk ?rtvd311
  case ytvd311 => (intro w hSw; (try dsimp only at hSw); go_simp; first | done | with_reducible rfl)
  simp only [Act.put, List.setIfInBounds_toArray, List.set_cons_zero, List.set_cons_succ]
  refine wpAnyH_take (i := 12) (oi := { dst := some 20, op := Op.load 3 (Operand.tmp 19), type := 3, pos := "lin.go:80", after := #[{ on := 11, ground := Ground.data }], guard := none }) (v := ?vtvd312) rfl (by kernel_rfl) (by kernel_rfl) (by kernel_rfl) (fun _ _ _ h => h) (Or.inl ⟨by rfl, ?ytvd312⟩) hk ?rtvd312
  case ytvd312 => (intro w hSw; have hcw := hSw.1.cells.2.2.2.2.2.2.2.2.1; clear hSw; go_simp; first | done | with_reducible rfl)
  simp only [Act.put, List.setIfInBounds_toArray, List.set_cons_zero, List.set_cons_succ]
  refine wpAnyH_ready (rs := [8]) (by decide +kernel) (by simp) ?_
  refine AllReadyH.cons (o := { dst := some 16, op := Op.call { callee := Callee.value (Operand.func 41), args := #[Operand.tmp 15], argTypes := #[37] }, type := 37, pos := "lin.go:80", after := #[{ on := 7, ground := Ground.data }], guard := none }) rfl (fun K hK => ?_) AllReadyH.nil
  go_simp
  have hiv := HOI.out wk hk.1
  refine (cloneN_any aO m cO (orI o) _ hiv HM64.out).mono ?_
  rintro e1 wk2 ⟨vC, rfl, hoC, hbC⟩
  obtain ⟨aC, cC, rfl⟩ := own_sl18 hoC
  replace hz := up_row _ _ hz hbC
  have HOC := Bx.mk (owns_base hoC hk.2.size)
  replace hk := And.intro (hk.1.below hbC) (bstep hk.2 hbC)
  clear hoC hbC hiv
  refine hK.out _ _ hk (fun _ => ?_)
  clear hK K
  try simp only [Act.put, List.setIfInBounds_toArray, List.set_cons_zero, List.set_cons_succ]
  refine wpAnyH_take (i := 13) (oi := { dst := some 21, op := Op.build 39 #[(0, Operand.tmp 11), (1, Operand.tmp 16), (2, Operand.tmp 20)], type := 39, pos := "lin.go:80", after := #[{ on := 3, ground := Ground.data }, { on := 8, ground := Ground.data }, { on := 12, ground := Ground.data }], guard := none }) (v := ?vtvd313) rfl (by kernel_rfl) (by kernel_rfl) (by kernel_rfl) (fun _ _ _ h => h) (Or.inl ⟨by rfl, ?ytvd313⟩) hk ?rtvd313
  case ytvd313 => (intro w hSw; (try dsimp only at hSw); go_simp; first | done | with_reducible rfl)
  simp only [Act.put, List.setIfInBounds_toArray, List.set_cons_zero, List.set_cons_succ]
  refine wpAnyH_ready (rs := [14]) (by decide +kernel) (by simp) ?_
  refine AllReadyH.cons (o := { dst := none, op := Op.store 39 (Operand.tmp 2) (Operand.tmp 21), type := 0, pos := "lin.go:80", after := #[{ on := 13, ground := Ground.data }, { on := 8, ground := Ground.chain }, { on := 0, ground := Ground.phase }, { on := 1, ground := Ground.phase }, { on := 2, ground := Ground.phase }, { on := 3, ground := Ground.phase }, { on := 4, ground := Ground.phase }, { on := 5, ground := Ground.phase }, { on := 6, ground := Ground.phase }, { on := 7, ground := Ground.phase }, { on := 8, ground := Ground.phase }, { on := 9, ground := Ground.phase }, { on := 10, ground := Ground.phase }, { on := 11, ground := Ground.phase }, { on := 12, ground := Ground.phase }, { on := 13, ground := Ground.phase }], guard := none }) rfl (fun K hK => ?_) AllReadyH.nil
  rw [if_pos (by rfl)]
  refine wp_store_mid 39 (.tmp 2) (.tmp 21) rfl gr 0 #[.int .i64 kd, .slice aC m cC, .int .i64 (t : Nat)] rfl rfl ?httvd314 vd_size18 (vd_one18 _ _ _ _ _) ?_
  case httvd314 => exact (show wk2.there gr 0 3 from there_row hz)
  have hrz := heap_stored (vs := #[.int .i64 kd, .slice aC m cC, .int .i64 (t : Nat)]) hz rfl
  have HOC2 := Bx.mk (owns_setCells (b := gr) (o := 0) (vs := (#[.int .i64 kd, .slice aC m cC, .int .i64 (t : Nat)] : Array Value).toList) HOC.out (fun k e e2 => own_off HOC.out hz (by decide) (e2 ▸ e)))
  have hbn := below_setCells hk.2 gr HGR.out (#[.int .i64 kd, .slice aC m cC, .int .i64 (t : Nat)] : Array Value).toList 0
  have htn : Tm D (wk2.setCells gr 0 (#[.int .i64 kd, .slice aC m cC, .int .i64 (t : Nat)] : Array Value).toList) vF F M t kd (.slice aO m cO) o := hk.1.keep (by rw [setCells_size]; exact Nat.le_refl _) (fun j _ e => setCells_other (fun e2 => by
    have hl := HLO.out
    have hgr := HGR.out
    rcases e with e | e | e
    · omega
    · have := hl.2.1 j e; omega
    · have := hl.2.2 j e; omega) _ 0) HDK.out
  replace hk := And.intro htn hbn
  clear hz HOC hbn htn
  generalize wk2.setCells gr 0 (#[.int .i64 kd, .slice aC m cC, .int .i64 (t : Nat)] : Array Value).toList = wk3 at hk hrz HOC2 ⊢
  simp only [Act.put]
  refine hK.out _ _ hk (fun _ => ?_)
  clear hK K
  try simp only [Act.put, List.setIfInBounds_toArray, List.set_cons_zero, List.set_cons_succ]
  refine wpAnyH_take (i := 15) (oi := { dst := some 3, op := Op.assign (Operand.const (Value.bool true)), type := 4, pos := "lin.go:80", after := #[{ on := 14, ground := Ground.chain }, { on := 0, ground := Ground.phase }, { on := 1, ground := Ground.phase }, { on := 2, ground := Ground.phase }, { on := 3, ground := Ground.phase }, { on := 4, ground := Ground.phase }, { on := 5, ground := Ground.phase }, { on := 6, ground := Ground.phase }, { on := 7, ground := Ground.phase }, { on := 8, ground := Ground.phase }, { on := 9, ground := Ground.phase }, { on := 10, ground := Ground.phase }, { on := 11, ground := Ground.phase }, { on := 12, ground := Ground.phase }, { on := 13, ground := Ground.phase }, { on := 14, ground := Ground.phase }], guard := none }) (v := ?vtvd315) rfl (by kernel_rfl) (by kernel_rfl) (by kernel_rfl) (fun _ _ _ h => h) (Or.inl ⟨by rfl, ?ytvd315⟩) hk ?rtvd315
  case ytvd315 => (intro w hSw; (try dsimp only at hSw); go_simp; first | done | with_reducible rfl)
  simp only [Act.put, List.setIfInBounds_toArray, List.set_cons_zero, List.set_cons_succ]
  refine wpAnyH_done (by decide +kernel) ?_ _
  have x0 := cell_of_row _ gr 0 _ _ (0, 0) hrz
  have x1 := cell_of_row _ gr 1 _ _ (0, 0) hrz
  have x2 := cell_of_row _ gr 2 _ _ (0, 0) hrz
  have HBE := Bx.mk hk.2
  clear hk hrz
  go_wp2_with fail
  exact bodyPost_ret (v := .tuple #[.agg #[.int .i64 kd, .slice aC m cC, .int .i64 (t : Nat)], .bool true]) (by simp [results, Try.results17, go_sem, x0, x1, x2]) rfl (HVP.out _ _ ⟨_, _, rfl, HOC2.out, HBE.out⟩)
end
end Go.Proofs.Ytbjeeefkbmdmfaa
namespace Go.Proofs.Ytbjeeefkbmdmfaa
open Go.RowKit
set_option linter.unusedVariables false
open Go.MapKept Go.Maps

section
variable {D : TD} {w w' : World} {vF : Value} {k : Nat} {F : List Fr} {M : List Ps} {kd : Int} {vO : Value} {o : List Nat}
set_option maxRecDepth 100000 in
theorem TaT.low {N : Nat} (h : TaT D w vF k F M kd vO o) (hn : NewD N D) (hk : Kept (ownT D vF) w w') (hs : N ≤ w.heap.size) : Below N w w' := hk.low (fun j e => by
  rcases e with e | e | e
  · rw [e]; exact hn.g
  · rw [e]; exact hn.gM
  · have h1 := (h.tm.ltF j e).1
    have h2 := hn.g
    omega) hs
set_option maxRecDepth 100000 in
/-- what it tells when it is over -/
theorem TaT.told (h : TaT D w vF k F M kd vO o) (hs : stopS (tS D) (tP D) (tB D) k = true) : kd = (vdK (tR D) : Nat) ∧ o = (tR D).o ∧ k = (tR D).t := by
  rcases h.st with ⟨h1, _⟩ | ⟨_, _, h2⟩
  · rw [h1] at hs; cases hs
  · exact h2
end
/-- what a whole search tells -/
def WhP (l : List Ic) (fu bu : Int) (ops : List Opr) (w : World) (e : Ending) (w' : World) : Prop := VerP (vdK (vdR l fu bu ops) : Nat) (vdR l fu bu ops).t (vdR l fu bu ops).o w e w'
section
variable {aL a : Option Addr} {nL cL n c : Nat} {l : List Ic} {fu bu : Int} {ops : List Opr} {w : World}
set_option maxHeartbeats 4000000 in
set_option maxRecDepth 100000 in
theorem whole_no (hI : Ics w aL nL cL l) (h : Ors w a n c ops) (hne : linE l fu bu ops ≠ 0) :
    Calls Try.prog 23 #[.slice aL nL cL, .int .i64 fu, .int .i64 bu, .slice a n c] w fun e w' => e = .returned (.tuple #[.agg #[.int .i64 0, .slice none 0 0, .int .i64 0], .bool false]) ∧ Below w.heap.size w w' := by
  have hb0 : Below w.heap.size w (w.alloc (.cells #[.int .i64 0, .slice none 0 0, .int .i64 0] 39)) := (Below.refl _ _).alloc (Nat.le_refl _) _
  have HI := Bx.mk (hI.below hb0)
  have H := Bx.mk (h.below hb0)
  have HB0 := Bx.mk hb0
  have HR0 := Bx.mk (heap_alloc_new w (.cells #[.int .i64 0, .slice none 0 0, .int .i64 0] 39))
  obtain ⟨gr, HGE⟩ : ∃ gr, Bx (w.heap.size = gr) := ⟨_, ⟨rfl⟩⟩
  have HGR : Bx (w.heap.size ≤ gr) := ⟨by rw [HGE.out]; exact Nat.le_refl _⟩
  rw [HGE.out] at HR0
  have HNE := Bx.mk hne
  clear hI h hb0 hne
  go_enter Try.func23, Try.ntmps23
  go_upto_region 1 with fail
  rw [HGE.out]
  generalize w.alloc (.cells #[.int .i64 0, .slice none 0 0, .int .i64 0] 39) = w1 at HI H HB0 HR0 ⊢
  go_wp2_with fail
  refine (new18_no HI.out H.out HNE.out).mono ?_
  rintro e w2 ⟨rfl, hb2⟩
  have HR2 := Bx.mk (up_row _ _ HR0.out hb2)
  have HB2 := Bx.mk (bstep HB0.out hb2)
  obtain ⟨r, HR⟩ : ∃ r, Bx (linE l fu bu ops = r) := ⟨_, ⟨rfl⟩⟩
  rw [HR.out] at HNE ⊢
  have hq : (r != 0) = true := by simpa using HNE.out
  clear hb2 HR0 HB0 HI H
  have x0 := cell_of_row _ gr 0 _ _ (0, 0) HR2.out
  have x1 := cell_of_row _ gr 1 _ _ (0, 0) HR2.out
  have x2 := cell_of_row _ gr 2 _ _ (0, 0) HR2.out
  have f0 := frozen_of_row _ gr 0 _ _ HR2.out
  have f1 := frozen_of_row _ gr 1 _ _ HR2.out
  have f2 := frozen_of_row _ gr 2 _ _ HR2.out
  have HBE := Bx.mk (((HB2.out.setCell (p := ⟨gr, 0, none⟩) HGR.out (.int .i64 0)).setCell (p := ⟨gr, 1, none⟩) HGR.out (.slice none 0 0)).setCell (p := ⟨gr, 2, none⟩) HGR.out (.int .i64 0))
  go_wp2_with fail
  exact bodyPost_ret (v := .tuple #[.agg #[.int .i64 0, .slice none 0 0, .int .i64 0], .bool false]) (by simp [results, Try.results23, go_sem, x0, x1, x2]) rfl ⟨rfl, HBE.out⟩
set_option maxHeartbeats 4000000 in
set_option maxRecDepth 100000 in
theorem whole_yes (hI : Ics w aL nL cL l) (hl : IcsK l) (h : Ors w a n c ops) (hO : OrsK ops) (hk : LinK l fu bu ops) :
    Calls Try.prog 23 #[.slice aL nL cL, .int .i64 fu, .int .i64 bu, .slice a n c] w (WhP l fu bu ops w) := by
  have hb0 : Below w.heap.size w (w.alloc (.cells #[.int .i64 0, .slice none 0 0, .int .i64 0] 39)) := (Below.refl _ _).alloc (Nat.le_refl _) _
  have HI := Bx.mk (hI.below hb0)
  have H := Bx.mk (h.below hb0)
  have HB0 := Bx.mk hb0
  have HR0 := Bx.mk (heap_alloc_new w (.cells #[.int .i64 0, .slice none 0 0, .int .i64 0] 39))
  obtain ⟨gr, HGE⟩ : ∃ gr, Bx (w.heap.size = gr) := ⟨_, ⟨rfl⟩⟩
  have HGR : Bx (w.heap.size ≤ gr) := ⟨by rw [HGE.out]; exact Nat.le_refl _⟩
  rw [HGE.out] at HR0
  have HLK := Bx.mk hl
  have HOK := Bx.mk hO
  have HK := Bx.mk hk
  obtain ⟨R, HRR⟩ : ∃ R, Bx (vdR l fu bu ops = R) := ⟨_, ⟨rfl⟩⟩
  have HRL : Bx (R.o.length ≤ 64) := ⟨by rw [← HRR.out]; exact Nat.le_trans (vd_len _ _ _ _) hk.few⟩
  have HVP : Bx (∀ e w', VerP (vdK R : Nat) R.t R.o w e w' → WhP l fu bu ops w e w') := ⟨fun e w' hx => by unfold WhP; rw [HRR.out]; exact hx⟩
  clear hI h hb0 hl hO hk
  go_enter Try.func23, Try.ntmps23
  go_upto_region 1 with fail
  rw [HGE.out]
  generalize w.alloc (.cells #[.int .i64 0, .slice none 0 0, .int .i64 0] 39) = w1 at HI H HB0 HR0 ⊢
  go_wp2_with fail
  refine (new18_yes HI.out HLK.out H.out HOK.out HK.out).mono ?_
  rintro e w2 ⟨D, vF, F, M, kd, vO, o, rfl, hD, hdk, hnd, hta, hb2⟩
  have HD := Bx.mk hD
  have HDK := Bx.mk hdk
  have HND := Bx.mk hnd
  have HTA := Bx.mk hta
  have HR2 := Bx.mk (up_row _ _ HR0.out hb2)
  have HB2 := Bx.mk (bstep HB0.out hb2)
  have HS2 := Bx.mk hb2.size
  have HSG : Bx (gr < w1.heap.size) := ⟨(Array.getElem?_eq_some_iff.1 HR0.out).1⟩
  clear hD hdk hnd hta hb2 HR0 HI H
  go_wp2_with fail
  refine (go_any HTA.out HDK.out 2147483648 (by unfold V64; decide)).mono ?_
  rintro e w3 ⟨vF3, rfl, ⟨F3, M3, kd3, vO3, o3, hta3⟩, hk3, ha3⟩
  have HST : Bx (stopS (tS D) (tP D) (tB D) (goF (tS D) (tP D) (tB D) (2147483648 : Int).toNat 0) = true) := ⟨go_all tk_zero (by have := HDK.out.bu; unfold tB; show D.bu.toNat ≤ 0 + 2147483648; omega)⟩
  rw [HST.out]
  obtain ⟨e1, e2, e3⟩ := hta3.told HST.out
  have hRe : tR D = R := by unfold tR; rw [HD.out.1, HD.out.2.1, HD.out.2.2.1, HD.out.2.2.2, HRR.out]
  rw [hRe] at e1 e2 e3
  rw [e1, e2, e3] at hta3
  have hb3 := HTA.out.low HND.out hk3 HS2.out
  have HT3 := Bx.mk hta3.tm
  have HR3 : Bx (w3.heap[gr]? = some (.cells #[.int .i64 0, .slice none 0 0, .int .i64 0] 39 (0, 0))) := ⟨(hb3.block gr HSG.out).trans HR2.out⟩
  have HB3 : Bx (Below w.heap.size w w3) := ⟨HB2.out.trans (hb3.mono HB0.out.size)⟩
  have HVK : Bx ((vdK R : Int) ≠ 0) := ⟨by have := vdk_pos R; omega⟩
  clear hta3 hk3 ha3 hb3 hRe e1 e2 e3 HR2 HB2 HTA
  go_wp2_with fail
  refine (ver_over HT3.out HDK.out HVK.out HRL.out).mono ?_
  rintro e w4 ⟨aV, cV, rfl, hoV, hb4⟩
  have HR4 := Bx.mk (up_row _ _ HR3.out hb4)
  have HB4 := Bx.mk (bstep HB3.out hb4)
  have HOV := Bx.mk (owns_base hoV HB3.out.size)
  obtain ⟨kR, HKR⟩ : ∃ kR : Nat, Bx (vdK R = kR) := ⟨_, ⟨rfl⟩⟩
  rw [HKR.out] at HVP ⊢
  clear hoV hb4 HR3 HB3 HT3
  have x0 := cell_of_row _ gr 0 _ _ (0, 0) HR4.out
  have x1 := cell_of_row _ gr 1 _ _ (0, 0) HR4.out
  have x2 := cell_of_row _ gr 2 _ _ (0, 0) HR4.out
  have f0 := frozen_of_row _ gr 0 _ _ HR4.out
  have f1 := frozen_of_row _ gr 1 _ _ HR4.out
  have f2 := frozen_of_row _ gr 2 _ _ HR4.out
  have hof := own_off HOV.out HR4.out (by decide)
  have HBE := Bx.mk (((HB4.out.setCell (p := ⟨gr, 0, none⟩) HGR.out (.int .i64 (kR : Nat))).setCell (p := ⟨gr, 1, none⟩) HGR.out (.slice aV R.o.length cV)).setCell (p := ⟨gr, 2, none⟩) HGR.out (.int .i64 (R.t : Nat)))
  have HOE := Bx.mk (ownsRow_setCell_other (ownsRow_setCell_other (ownsRow_setCell_other HOV.out (a := ⟨gr, 0, none⟩) hof (.int .i64 (kR : Nat))) (a := ⟨gr, 1, none⟩) hof (.slice aV R.o.length cV)) (a := ⟨gr, 2, none⟩) hof (.int .i64 (R.t : Nat)))
  clear hof HR4 HOV HB4
  generalize hm : R.o.length = m at HBE HOE HVP ⊢
  go_wp2_with fail
  subst hm
  exact bodyPost_ret (v := .tuple #[.agg #[.int .i64 (kR : Nat), .slice aV R.o.length cV, .int .i64 (R.t : Nat)], .bool true]) (by simp [results, Try.results23, go_sem, x0, x1, x2]) rfl (HVP.out _ _ ⟨_, _, rfl, HOE.out, HBE.out⟩)
end
end Go.Proofs.Ytbjeeefkbmdmfaa
namespace Go.Proofs.Ytbjeeefkbmdmfaa
open Go.RowKit
set_option linter.unusedVariables false
open Go.MapKept Go.Maps

def gtL : List Ic := [⟨4, 0⟩, ⟨18, 0⟩]
def lvP : Opr := ⟨0, 0, 0, true, 1, 0, 1⟩
set_option maxRecDepth 100000 in
theorem gt_k : LinK gtL 9 9 [lvP] := linE_ok (by decide)
set_option maxRecDepth 100000 in
theorem gtL_k : IcsK gtL := fun x hx => by
  have h : ∀ x ∈ gtL, V64 x.n := by unfold V64; decide
  exact h x hx
set_option maxRecDepth 100000 in
theorem lvP_k : OrsK [lvP] := fun x hx => by
  rcases List.mem_cons.1 hx with e | hx
  · rw [e]; exact ⟨by unfold V64; decide, by unfold V64; decide, by unfold V64; decide, by unfold V64; decide, by unfold V64; decide, by unfold V64; decide⟩
  cases hx
set_option maxRecDepth 100000 in
theorem gt_s0 : stopS (srO gtL 9 [lvP]) (po0 1) 9 0 = false := by decide
set_option maxRecDepth 100000 in
theorem gt_s1 : stopS (srO gtL 9 [lvP]) (po0 1) 9 1 = true := by decide
set_option maxRecDepth 100000 in
theorem gt_o1 : (sqS (srO gtL 9 [lvP]) (po0 1) 1).ov = 2 := by decide
set_option maxRecDepth 100000 in
theorem gt_go : goF (srO gtL 9 [lvP]) (po0 1) 9 5 0 = 1 := by rw [go_one gt_s0, go_stop gt_s1]
set_option maxRecDepth 100000 in
theorem gt_vd : vdK (vdR gtL 9 9 [lvP]) = 2 ∧ (vdR gtL 9 9 [lvP]).t = 1 ∧ (vdR gtL 9 9 [lvP]).o.length ≤ 64 := by
  have h := tk_told (srO_ok (l := gtL) (f := 9) (ops := [lvP])) (tk_next tk_zero gt_s0) gt_s1
  refine ⟨?_, h.1, Nat.le_trans (vd_len _ _ _ _) (by decide)⟩
  rcases h.2 with ⟨_, h1, _⟩ | ⟨h1, _⟩
  · exact h1.trans gt_o1
  · rw [gt_o1] at h1; cases h1
set_option maxRecDepth 100000 in
theorem two_ins18 (w : World) : Ics (w.alloc (.cells #[.int .i64 4, .int .i64 0, .int .i64 18, .int .i64 0] 77)) (some ⟨w.heap.size, 0, none⟩) 2 2 gtL := by
  have hown : (w.alloc (.cells #[.int .i64 4, .int .i64 0, .int .i64 18, .int .i64 0] 77)).ownsRow w.heap.size 77 2 (.slice (some ⟨w.heap.size, 0, none⟩) 2 2) 2 (gtL.flatMap icC) := World.ownsRow_lit w #[.int .i64 4, .int .i64 0, .int .i64 18, .int .i64 0] 2 (Nat.le_refl _) (by unfold maxLen; omega) rfl
  obtain ⟨ao, cap, e, hE⟩ := Ls.of_owns icC_len hown rfl
  cases e
  exact hE
set_option maxRecDepth 100000 in
theorem lvP_or (w : World) : Ors (w.alloc (.cells #[.int .i64 0, .int .i64 0, .int .i64 0, .bool true, .int .i64 1, .int .i64 0, .int .i64 1] 35)) (some ⟨w.heap.size, 0, none⟩) 1 1 [lvP] := by
  have hown : (w.alloc (.cells #[.int .i64 0, .int .i64 0, .int .i64 0, .bool true, .int .i64 1, .int .i64 0, .int .i64 1] 35)).ownsRow w.heap.size 35 7 (.slice (some ⟨w.heap.size, 0, none⟩) 1 1) 1 ([lvP].flatMap orC) := World.ownsRow_lit w #[.int .i64 0, .int .i64 0, .int .i64 0, .bool true, .int .i64 1, .int .i64 0, .int .i64 1] 1 (Nat.le_refl _) (by unfold maxLen; omega) rfl
  obtain ⟨ao, cap, e, hE⟩ := Ls.of_owns orC_len hown rfl
  cases e
  exact hE
set_option maxHeartbeats 4000000 in
set_option maxRecDepth 100000 in
theorem get18_any (w : World) :
    Calls Try.prog 38 #[] w fun e w' => e = .returned (.slice (some ⟨w.heap.size, 0, none⟩) 2 2) ∧ Ics w' (some ⟨w.heap.size, 0, none⟩) 2 2 gtL ∧ Below w.heap.size w w' := by
  have HE := Bx.mk (two_ins18 w)
  have HB : Bx (Below w.heap.size w (w.alloc (.cells #[.int .i64 4, .int .i64 0, .int .i64 18, .int .i64 0] 77))) := ⟨(Below.refl _ _).alloc (Nat.le_refl _) _⟩
  go_enter Try.func38, Try.ntmps38
  go_wp2_with fail
  go_ret
  exact ⟨rfl, HE.out, HB.out⟩
set_option maxHeartbeats 4000000 in
set_option maxRecDepth 100000 in
theorem lives18_any (w : World) :
    Calls Try.prog 15 #[] w fun e w' => e = .returned (.bool true) ∧ Below w.heap.size w w' := by
  go_enter Try.func15, Try.ntmps15
  go_wp2_with fail
  refine (get18_any w).mono ?_
  rintro e w1 ⟨rfl, hE, hb⟩
  have hb1 : Below w1.heap.size w1 (w1.alloc (.cells #[.int .i64 0, .int .i64 0, .int .i64 0, .bool true, .int .i64 1, .int .i64 0, .int .i64 1] 35)) := (Below.refl _ _).alloc (Nat.le_refl _) _
  have HE := Bx.mk (hE.below hb1)
  have HO := Bx.mk (lvP_or w1)
  have HB := Bx.mk (bstep hb hb1)
  clear hE hb hb1
  go_wp2_with fail
  generalize w1.alloc (.cells #[.int .i64 0, .int .i64 0, .int .i64 0, .bool true, .int .i64 1, .int .i64 0, .int .i64 1] 35) = w2 at HE HO HB ⊢
  refine (new18_yes (fu := 9) (bu := 9) HE.out gtL_k HO.out lvP_k gt_k).mono ?_
  rintro e w3 ⟨D, vF, F, M, kd, vO, o, rfl, ⟨hd1, hd2, hd3, hd4⟩, hdk, hnd, hta, hb3⟩
  have HDK := Bx.mk hdk
  have HND := Bx.mk hnd
  have HTA := Bx.mk hta
  have HB3 := Bx.mk (bstep HB.out hb3)
  have HS3 := Bx.mk hb3.size
  have HS2 := Bx.mk HB.out.size
  have HSP : Bx (tS D = srO gtL 9 [lvP] ∧ tP D = po0 1 ∧ tB D = 9 ∧ tR D = vdR gtL 9 9 [lvP]) := ⟨by unfold tS tP tB tR; rw [hd1, hd2, hd3, hd4]; exact ⟨rfl, rfl, rfl, rfl⟩⟩
  have HOV : Bx (decide (kd ≠ 0) = false) := ⟨by rw [hta.over, HSP.out.1, HSP.out.2.1, HSP.out.2.2.1]; exact gt_s0⟩
  clear hd1 hd2 hd3 hd4 hdk hnd hta hb3 HE HO HB
  go_wp2_with fail
  refine (over_any HTA.out.tm).mono ?_
  rintro e w4 ⟨rfl, hw4⟩
  obtain rfl : w3 = w4 := hw4.symm
  rw [HOV.out]
  clear hw4
  go_wp2_with fail
  refine (go_any HTA.out HDK.out 5 (by unfold V64; decide)).mono ?_
  rintro e w5 ⟨vF5, rfl, ⟨F5, M5, kd5, vO5, o5, hta5⟩, hk5, ha5⟩
  have hgo : goF (tS D) (tP D) (tB D) (5 : Int).toNat 0 = 1 := by rw [HSP.out.1, HSP.out.2.1, HSP.out.2.2.1]; exact gt_go
  have hst : stopS (tS D) (tP D) (tB D) 1 = true := by rw [HSP.out.1, HSP.out.2.1, HSP.out.2.2.1]; exact gt_s1
  rw [hgo] at hta5 ⊢
  rw [hst]
  have e1 := (hta5.told hst).1
  have e2 := (hta5.told hst).2.1
  rw [HSP.out.2.2.2] at e1 e2
  rw [gt_vd.1] at e1
  have HT5 := Bx.mk hta5.tm
  have HB5 : Bx (Below w.heap.size w w5) := ⟨HB3.out.trans ((HTA.out.low HND.out hk5 HS3.out).mono HS2.out)⟩
  have HOL : Bx (o5.length ≤ 64) := ⟨by rw [e2]; exact gt_vd.2.2⟩
  have HKD : Bx (kd5 = 2) := ⟨e1⟩
  clear hta5 hk5 ha5 hgo hst e1 e2 HTA HB3
  go_wp2_with fail
  refine (ver_over HT5.out HDK.out (by rw [HKD.out]; decide) HOL.out).mono ?_
  rintro e w6 ⟨aV, cV, rfl, _, hb6⟩
  rw [HKD.out]
  have HB6 : Bx (Below w.heap.size w (w6.alloc (.cells #[.int .i64 2, .slice aV o5.length cV, .int .i64 1] 39))) := ⟨bstep (bstep HB5.out hb6) ((Below.refl _ _).alloc (Nat.le_refl _) _)⟩
  clear hb6
  generalize o5.length = m at HB6 ⊢
  go_wp2_with fail
  go_ret
  exact ⟨rfl, HB6.out⟩
end Go.Proofs.Ytbjeeefkbmdmfaa
