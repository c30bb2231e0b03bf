/- Scan of a store. -/
import Derived.Test.YtipakjenggeflaaGreatDoorSPairs
import Derived.Test.YtipakjenggeflaaGreatDoorPkat
import Derived.Test.YtipakjenggeflaaGreatDoorSShelf
import Derived.BigFrameIn
import Derived.BigGuardIn
import Derived.BigGuardPartIn
import Derived.BigRegionIn
namespace Go.Proofs.YtipakjenggeflaaGreatDoor
open Go.RowKit Go.Shelf Go.MapKept
attribute [local go_sem] Oper.semAt_some

/-- which pairs are told -/
def sel (front after : ByteArray) (p : Pr) : Bool := Lib.hasPrefix p.1.data.toList front.data.toList && decide (klt after p.1)
def scL (L : List Pr) (front after : ByteArray) (most : Int) : List Pr := (L.filter (sel front after)).take most.toNat
/-- what is asked of the sort -/
def SortSays : Prop := ∀ (base : Nat) (a : Option Addr) (n cap : Nat) (Z : List (It Pr)) (w : World), Z.length = n → n ≤ 1000000 → w.ownsRow base 150 2 (.slice a n cap) n (Z.flatMap prE) →
  Calls Tryz.prog 152 #[.slice a n cap, .func (.func 153) #[] #[]] w fun e w' => e = .returned (.tuple #[]) ∧
    ∃ Z' : List (It Pr), Z'.Perm Z ∧ (Z'.map (·.x)).Pairwise (fun a b => ¬ klt b.1 a.1) ∧ w'.ownsRow base 150 2 (.slice a n cap) n (Z'.flatMap prE) ∧ w.grownBy w' (Value.slice a n cap).ownBlock
set_option maxRecDepth 100000 in
set_option maxHeartbeats 1000000 in
theorem pairs_in (n : Nat) (p0 : Option Addr) (w : World) :
    CallsIn Fence.wide n Tryz.prog 150 #[.pointer p0] w fun e w' => e = .returned (.func (.func 218) #[] #[.pointer (some ⟨w.heap.size, 0, none⟩)]) ∧ w' = w.alloc (.cells #[.pointer p0] 57) := by
  refine callsIn_of_wp Tryz.func150 rfl trivial ?_ rfl
  simp only [Tryz.ntmps150, List.size_toArray, List.length_cons, List.length_nil, Nat.reduceAdd, Nat.reduceSub, Array.replicate_succ, Array.replicate_zero, List.push_toArray, List.append_toArray, List.nil_append, List.cons_append]
  gi_wp2
  go_ret
  exact ⟨rfl, rfl⟩
set_option maxRecDepth 100000 in
theorem pairs_stops (n : Nat) (hn : 1 ≤ n) (Bs gs gm : Nat) (es : Array MapEntry) (clock : Nat) (Z : List (It Pr)) (w : World) (hB : Bs < w.heap.size) (hg : gs < w.heap.size) (c1 : w.cell? ⟨Bs, 0, none⟩ = some (.pointer (some ⟨gs, 0, none⟩))) (c2 : w.cell? ⟨gs, 2, none⟩ = some (.map (some gm))) (hm : w.heap[gm]? = some (.map es clock)) (hez : EZ es clock Z) :
    SeqStopsK Fence.wide n Tryz.prog 218 #[.pointer (some ⟨Bs, 0, none⟩)] (fun z : It Pr => #[Value.agg #[.string z.x.1, .slice z.a z.n z.c]]) KeepsWalks (fun ys => ys.Perm Z) (fun _ => True) Z.length w := fun l J Jx W hW hJ _ hY h0 =>
  pairs1_in n hn l Bs gs gm es clock Z J Jx hY W hJ ((hW.cell (p := ⟨Bs, 0, none⟩) hB).trans c1) ((hW.cell (p := ⟨gs, 2, none⟩) hg).trans c2) ((hW.block gm (Array.getElem?_eq_some_iff.1 hm).1).trans hm) hez h0
set_option maxRecDepth 100000 in
theorem cells_own {w w' : World} {row : Option Nat} {g : Nat} {cs : Array Value} {t : TypeId} (h : w.heap[g]? = some (.cells cs t (0, 0))) (hg : w.grownBy w' row) (hr : ∀ r, row = some r → ∃ o : Obj, w.heap[r]? = some o ∧ o.isCells = false) : w'.heap[g]? = some (.cells cs t (0, 0)) :=
  (hg.block g (Array.getElem?_eq_some_iff.1 h).1 (fun e => by obtain ⟨o, ho, hc⟩ := hr g e.symm; rw [h] at ho; cases ho; cases hc)).trans h
set_option maxRecDepth 100000 in
theorem filter_snoc_yes {F : It Pr → Bool} {pre : List (It Pr)} {z : It Pr} (h : F z = true) : (pre ++ [z]).filter F = pre.filter F ++ [z] := by rw [List.filter_append]; simp [h]
set_option maxRecDepth 100000 in
theorem filter_snoc_no {F : It Pr → Bool} {pre : List (It Pr)} {z : It Pr} (h : F z = false) : (pre ++ [z]).filter F = pre.filter F := by rw [List.filter_append]; simp [h]
set_option maxRecDepth 100000 in
theorem hasPrefix_in (n : Nat) (l : Nat) (s p : ByteArray) (w : World) : CallsIn (Fence.wide.inRound l) n Tryz.prog 151 #[.string s, .string p] w fun e w' => e = .returned (.bool (Lib.hasPrefix s.data.toList p.data.toList)) ∧ w = w' :=
  CallsIn.inRound l (callsIn_wide.2 ((Any.strings_HasPrefix Tryz.lays99 s p w).mono fun _ _ h => ⟨h.1, h.2.symm⟩))
set_option maxRecDepth 100000 in
/-- a list of whatever values, read -/
theorem pt_of_own {w : World} {base n c : Nat} {a : Option Addr} {Z : List (It Pr)} (ho : w.ownsRow base 150 2 (.slice a n c) n (Z.flatMap prE)) (hn : Z.length = n) (hz : ∀ z ∈ Z, Bts w z.a z.n z.c z.x.2) : PT (fun _ => True) w a n c (Z.map (·.x)) := by
  rcases ho.2 with ⟨e, h0⟩ | ⟨g, cap, cur, e, hb, hg, hnc, hcm, hcs, ht⟩
  · cases e
    exact ⟨by rw [List.length_map]; omega, by omega, Nat.zero_le _, fun hp => by omega⟩
  · cases e
    refine ⟨by rw [List.length_map]; omega, hnc, hcm, fun hp => ⟨g, 0, rfl, (Array.getElem?_eq_some_iff.1 hg).1, trivial, fun i hi => ?_⟩⟩
    have hi2 : i < Z.length := by omega
    refine ⟨Z[i], by rw [List.getElem?_map, List.getElem?_eq_getElem hi2]; rfl, fun j hj => ?_, hz _ (List.getElem_mem hi2), fun _ _ _ => trivial⟩
    rw [Nat.zero_add, ho.cellAt (i * 2 + j) (by omega), flat_getS prE_len Z i j hi2 hj]
set_option maxRecDepth 100000 in
/-- what comes out is the document's -/
theorem scL_of {L M : List Pr} {Z ys Z2 : List (It Pr)} {front after : ByteArray} (hr : Rep L M) (hzx : Z.map (·.x) = M) (hp : ys.Perm Z) (h2 : Z2.Perm (ys.filter (fun z => sel front after z.x))) (hs : (Z2.map (·.x)).Pairwise (fun a b => ¬ klt b.1 a.1)) : Z2.map (·.x) = L.filter (sel front after) := by
  have e1 : (ys.filter (fun z => sel front after z.x)).map (·.x) = (ys.map (·.x)).filter (sel front after) := by rw [List.filter_map]; rfl
  have p1 : (Z2.map (·.x)).Perm (M.filter (sel front after)) := by
    have := h2.map (·.x)
    rw [e1] at this
    exact this.trans (((hp.map (·.x)).trans (by rw [hzx])).filter _)
  have hn : Nod (Z2.map (·.x)) := Nod.perm (List.Pairwise.sublist List.filter_sublist hr.nod) p1.symm
  have hsrt : Srt (Z2.map (·.x)) := by
    have h3 := hs.and hn
    exact List.Pairwise.imp (fun {a b} h => klt_tri h.1 (fun e => h.2 e.symm)) h3
  exact hsrt.unique (hr.s.filter _) (p1.trans (hr.p.symm.filter _))
set_option maxRecDepth 100000 in
set_option maxHeartbeats 4000000 in
set_option maxRecDepth 100000 in
theorem scan_any (hso : SortSays) (gs gl : Nat) (q us : Int) (own : Nat → Prop) (M L : List Pr) (front after : ByteArray) (most : Int) (w : World) (h : StS w gs gl q us own M) (hr : Rep L M) (hM : M.length ≤ 1000000) (hm1 : -9223372036854775808 ≤ most) (hm2 : most ≤ 9223372036854775807) :
    Calls Tryz.prog 79 #[.pointer (some ⟨gs, 0, none⟩), .string front, .string after, .int .i64 most] w fun e w' => ∃ v, e = .returned v ∧ PL w' (fun k => w.heap.size ≤ k ∧ k < w'.heap.size) v (scL L front after most) ∧ Below w.heap.size w w' := by
  obtain ⟨gm, es, clock, Z, hs⟩ := h
  have H0 := Bx.mk hs.c0
  have HS := Bx.mk hs
  have hgs : gs < w.heap.size := hs.lt _ hs.og
  have hZl : Z.length = M.length := by rw [← hs.zx, List.length_map]
  obtain ⟨i0, hi, hz0, hz1, hz2⟩ := info_parts Tryz.infoP
  clear hs
  refine (callsIn_wide (n := 9)).1 ?_
  refine callsIn_of_wp_marks Tryz.func79 rfl trivial ?_ rfl
  simp only [Tryz.ntmps79, List.size_toArray, List.length_cons, List.length_nil, Nat.reduceAdd, Nat.reduceSub, Array.replicate_succ, Array.replicate_zero, List.push_toArray, List.append_toArray, List.nil_append, List.cons_append]
  have hb2 : Below w.heap.size w ((w.alloc (.cells #[.string front] 9)).alloc (.cells #[.string after] 9)) := ((Below.refl w.heap.size w).alloc (Nat.le_refl _) _).alloc (by simp) _
  have HC0 := Bx.mk ((hb2.cell (p := ⟨gs, 0, none⟩) hgs).trans H0.out)
  clear hb2
  gi_wp2_with fail
  refine ⟨trivial, (callsIn_wide.2 (smade_yes gs gl _ HC0.out)).mono ?_⟩
  rintro e w' ⟨rfl, rfl⟩
  gi_wp2_with fail
  refine ⟨trivial, (pairs_in _ _ _).mono ?_⟩
  rintro e w' ⟨rfl, rfl⟩
  gi_wp2_with fail
  have bF := (((Boxed.new w 9 (.string front)).alloc (.cells #[.string after] 9)).alloc (.cells #[.slice none 0 0] 74)).alloc (.cells #[.pointer (some ⟨gs, 0, none⟩)] 57)
  have bA := ((Boxed.new (w.alloc (.cells #[.string front] 9)) 9 (.string after)).alloc (.cells #[.slice none 0 0] 74)).alloc (.cells #[.pointer (some ⟨gs, 0, none⟩)] 57)
  have bO := (Boxed.new ((w.alloc (.cells #[.string front] 9)).alloc (.cells #[.string after] 9)) 74 (.slice none 0 0)).alloc (.cells #[.pointer (some ⟨gs, 0, none⟩)] 57)
  have bS := Boxed.new (((w.alloc (.cells #[.string front] 9)).alloc (.cells #[.string after] 9)).alloc (.cells #[.slice none 0 0] 74)) 57 (.pointer (some ⟨gs, 0, none⟩))
  simp only [World.size_alloc] at bA bO bS
  have hB0 : Below w.heap.size w ((((w.alloc (.cells #[.string front] 9)).alloc (.cells #[.string after] 9)).alloc (.cells #[.slice none 0 0] 74)).alloc (.cells #[.pointer (some ⟨gs, 0, none⟩)] 57)) := ((((Below.refl _ w).alloc (Nat.le_refl _) _).alloc (by simp) _).alloc (by simp; omega) _).alloc (by simp; omega) _
  have hsz : ((((w.alloc (.cells #[.string front] 9)).alloc (.cells #[.string after] 9)).alloc (.cells #[.slice none 0 0] 74)).alloc (.cells #[.pointer (some ⟨gs, 0, none⟩)] 57)).heap.size = w.heap.size + 4 := by simp
  generalize (((w.alloc (.cells #[.string front] 9)).alloc (.cells #[.string after] 9)).alloc (.cells #[.slice none 0 0] 74)).alloc (.cells #[.pointer (some ⟨gs, 0, none⟩)] 57) = W0 at bF bA bO bS hB0 hsz ⊢
  have hcg := (hB0.cell (p := ⟨gs, 2, none⟩) hgs).trans HS.out.c2
  have hmg := (hB0.block gm (HS.out.lt _ HS.out.om)).trans HS.out.mp
  refine wpIn_rangeFunc_ownH rfl (by decide) (gf := 218) (lb := #[.pointer (some ⟨w.heap.size + 1 + 1 + 1, 0, none⟩)]) rfl trivial (enters_of Tryz.func218 (by kernel_rfl) rfl)
    (pairs_stops 8 (by decide) (w.heap.size + 1 + 1 + 1) gs gm es clock Z W0 (by omega) (by omega) bS.cell hcg hmg HS.out.ez) walksK_t walksK_b (Below.refl _ _) (fun _ => rfl)
    (fun pre W => ((Boxed W w.heap.size 9 (.string front) ∧ Boxed W (w.heap.size + 1) 9 (.string after)) ∧ ∃ v, Boxed W (w.heap.size + 1 + 1) 74 v ∧ W.ownsRow w.heap.size 150 2 v (pre.filter (fun z => sel front after z.x)).length ((pre.filter (fun z => sel front after z.x)).flatMap prE) ∧ True) ∧ Below w.heap.size w W)
    (fun _ _ _ => False)
    (OwnFrom.and (OwnFrom.and (OwnFrom.and (Own.from (boxed_own _ _ _) _) (Own.from (boxed_own _ _ _) _)) (Own.from (holdsRow_own w.heap.size (w.heap.size + 1 + 1) 74 150 2 (fun pre : List (It Pr) => (pre.filter (fun z => sel front after z.x)).length) (fun pre => (pre.filter (fun z => sel front after z.x)).flatMap prE) (fun _ _ => True)) _)) (ownFrom_below (by omega) (by omega)))
    (fun _ _ _ _ _ hs _ _ => hs)
    ⟨⟨⟨bF, bA⟩, _, bO, World.ownsRow_nil _ _ _ _, trivial⟩, hB0⟩
    (fun x a' W => ∃ Bw, w.heap.size + 2 < Bw ∧ W.heap[Bw]? = some (.cells #[.string x.x.1, .slice x.a x.n x.c] 150 (0, 0)) ∧ a' = { tmps := #[.pointer (some ⟨gs, 0, none⟩), .string front, .string after, .int .i64 most, undef, .pointer (some ⟨w.heap.size, 0, none⟩), .pointer (some ⟨w.heap.size + 1, 0, none⟩), undef, .slice none 0 0, .pointer (some ⟨w.heap.size + 1 + 1, 0, none⟩), .pointer (some ⟨Bw, 0, none⟩), .pointer (some ⟨gs, 0, none⟩), .bool true, .bool false, .pointer (some ⟨gs, 0, none⟩), .func (.func 218) #[] #[.pointer (some ⟨w.heap.size + 1 + 1 + 1, 0, none⟩)], .agg #[.string x.x.1, .slice x.a x.n x.c], undef, undef, undef, undef, undef, undef, undef, undef, undef, undef, undef, undef, undef, undef, undef, undef, undef, undef, undef, undef, undef, undef, undef, undef], defers := [] })
    (fun x a' _ X Y row hs hg hr => by obtain ⟨Bw, h1, h2, h3⟩ := hs; exact ⟨Bw, h1, cells_own h2 hg (fun r e => (hr r e).2), h3⟩)
    ?assign ?body ?done ?stop
  case assign =>
    rintro l pre x W K ⟨⟨⟨bF1, bA1⟩, v, bO1, hrow, _⟩, hB1⟩ hK
    have h4 := bO1.lt
    have h5 := hB1.size
    gi_wp2
    exact hK _ _ ((KeepsOthers.alloc _ _).from _) (KeepsWalks.alloc _ _) ⟨⟨⟨bF1.alloc _, bA1.alloc _⟩, v, bO1.alloc _, hrow.alloc _, trivial⟩, hB1.alloc hB1.size _⟩ ⟨W.heap.size, by omega, heap_alloc_new W _, rfl⟩
  case body =>
    rintro l pre x a' W hl ⟨r, hr9⟩ ⟨⟨⟨bF1, bA1⟩, v, bO1, hrow, _⟩, hB1⟩ ⟨Bw, hBw, bX, rfl⟩ hlt
    have cF := bF1.cell
    have cA := bA1.cell
    have cO := bO1.cell
    have x0 : W.cell? ⟨Bw, 0, none⟩ = some (.string x.x.1) := cell_of_row W Bw 0 _ _ (0, 0) bX
    have x1 : W.cell? ⟨Bw, 1, none⟩ = some (.slice x.a x.n x.c) := cell_of_row W Bw 1 _ _ (0, 0) bX
    obtain ⟨pf, HPF⟩ : ∃ b, Bx (b = Lib.hasPrefix x.x.1.data.toList front.data.toList) := ⟨_, ⟨rfl⟩⟩
    gi_wp2_with fail
    refine ⟨trivial, (hasPrefix_in _ l _ _ _).mono ?_⟩
    rintro e w' ⟨rfl, rfl⟩
    rw [← HPF.out]
    cases pf with
    | false =>
      have HSEL : Bx (sel front after x.x = false) := ⟨by unfold sel; rw [← HPF.out]; rfl⟩
      clear HPF
      gi_wp2
      exact ⟨KeepsFrom.refl _ _, KeepsWalks.refl _, ⟨⟨bF1, bA1⟩, v, bO1, by rw [filter_snoc_no HSEL.out]; exact hrow, trivial⟩, hB1⟩
    | true =>
      have HSEL : Bx (sel front after x.x = decide (klt after x.x.1)) := ⟨by unfold sel; rw [← HPF.out]; rfl⟩
      have hgt := bgtr x.x.1 after
      clear HPF
      by_cases hk : klt after x.x.1
      · have HY : Bx (sel front after x.x = true) := ⟨by rw [HSEL.out]; exact decide_eq_true hk⟩
        rw [decide_eq_true hk] at hgt
        simp only [Bool.not_eq_true', Bool.or_eq_false_iff] at hgt
        obtain ⟨g1, g2⟩ := hgt
        have hpl : (pre.filter (fun z => sel front after z.x)).length ≤ pre.length := List.length_filter_le _ _
        obtain ⟨a1, n1, c1, rfl⟩ := own_form hrow
        clear HSEL hk
        gi_wp2_with (gi_at_builtin; refine wpListIn_append_own _ rfl _ _ 74 rfl w.heap.size 150 i0 (.agg #[.string ⟨#[]⟩, .slice none 0 0]) 2 40 Tryz.underlying74 hi hz0 hz1 hz2 rfl (by decide) _ _ _ rfl (hrow.alloc _) ⟨W.heap.size, 0, none⟩ 1 1 [.string x.x.1, .slice x.a x.n x.c] rfl rfl (World.news_of_block (heap_alloc_new W _)) (by simp [Value.oneCell']) (by unfold maxLen; omega) (by omega) (by have := hB1.size; simp; omega) ?_; intro v' w1 hown' hgrow _; obtain ⟨g', cap', rfl⟩ := ownsRow_succ hown'; obtain ⟨hv1, hv2, hr2, hk2, hb2⟩ := bO1.appended (by decide) hrow hB1.size (by omega) hown' hgrow; have hc1 := hv1.cell; have hf1 := hv1.frozen)
        have f2 := ((bF1.alloc (.cells #[.string x.x.1, .slice x.a x.n x.c] 150)).kept hgrow ((bF1.alloc (.cells #[.string x.x.1, .slice x.a x.n x.c] 150)).not_row (by decide) (hrow.alloc (.cells #[.string x.x.1, .slice x.a x.n x.c] 150)))).other (show w.heap.size ≠ w.heap.size + 1 + 1 by omega) (.slice (some ⟨g', 0, none⟩) ((pre.filter (fun z => sel front after z.x)).length + 1) cap')
        have a2 := ((bA1.alloc (.cells #[.string x.x.1, .slice x.a x.n x.c] 150)).kept hgrow ((bA1.alloc (.cells #[.string x.x.1, .slice x.a x.n x.c] 150)).not_row (by decide) (hrow.alloc (.cells #[.string x.x.1, .slice x.a x.n x.c] 150)))).other (show w.heap.size + 1 ≠ w.heap.size + 1 + 1 by omega) (.slice (some ⟨g', 0, none⟩) ((pre.filter (fun z => sel front after z.x)).length + 1) cap')
        exact ⟨hk2.from _, hk2.walks, ⟨⟨f2, a2⟩, _, hv2, by rw [filter_snoc_yes HY.out, List.length_append, List.flatMap_append]; simpa [prE] using hr2, trivial⟩, hB1.trans hb2⟩
      · have HN : Bx (sel front after x.x = false) := ⟨by rw [HSEL.out]; exact decide_eq_false hk⟩
        rw [decide_eq_false hk] at hgt
        clear HSEL hk
        have hgo : Op.bytesLess x.x.1.toList after.toList = true ∨ (Op.bytesLess x.x.1.toList after.toList = false ∧ (x.x.1.toList == after.toList) = true) := by
          cases h1 : Op.bytesLess x.x.1.toList after.toList with
          | true => exact .inl rfl
          | false => rw [h1] at hgt; exact .inr ⟨rfl, by simpa using hgt⟩
        clear hgt
        rcases hgo with g1 | ⟨g1, g2⟩
        · gi_wp2
          exact ⟨KeepsFrom.refl _ _, KeepsWalks.refl _, ⟨⟨bF1, bA1⟩, v, bO1, by rw [filter_snoc_no HN.out]; exact hrow, trivial⟩, hB1⟩
        · gi_wp2
          exact ⟨KeepsFrom.refl _ _, KeepsWalks.refl _, ⟨⟨bF1, bA1⟩, v, bO1, by rw [filter_snoc_no HN.out]; exact hrow, trivial⟩, hB1⟩
  case done =>
    rintro D ys W hD hperm ⟨⟨⟨bF1, bA1⟩, v, bO1, hrow, _⟩, hB1⟩ hK9
    have cO := bO1.cell
    obtain ⟨a1, c1, rfl, _⟩ : ∃ a c, v = .slice a (ys.filter (fun z => sel front after z.x)).length c ∧ True := by
      rcases hrow.2 with ⟨rfl, h0⟩ | ⟨g, cap, cur, rfl, hb, hg, hnc, hcm, hcs, ht⟩
      · exact ⟨none, 0, by rw [h0], trivial⟩
      · exact ⟨some ⟨g, 0, none⟩, cap, rfl, trivial⟩
    have hfl : (ys.filter (fun z => sel front after z.x)).length ≤ 1000000 := by
      have h1 : (ys.filter (fun z => sel front after z.x)).length ≤ ys.length := List.length_filter_le _ _
      have h2 := hperm.length_eq
      omega
    generalize hF : ys.filter (fun z => sel front after z.x) = F at hrow bO1 cO hfl
    have HF9 := Bx.mk hF
    clear hF
    obtain ⟨nf, HNF⟩ : ∃ n, Bx (F.length = n) := ⟨_, ⟨rfl⟩⟩
    rw [HNF.out] at hrow bO1 cO hfl
    have HROW := Bx.mk hrow
    have HBO := Bx.mk bO1
    clear hrow bO1 bF1 bA1
    gi_wp2_with fail
    refine ⟨trivial, (callsIn_wide.2 (hso w.heap.size a1 nf c1 F W HNF.out hfl HROW.out)).mono ?_⟩
    rintro e w2 ⟨rfl, Z2, hZ2, hs2, hrow2, hgr2⟩
    have bO2 := HBO.out.kept hgr2 (HBO.out.not_row (by decide) HROW.out)
    have hDl : D < W.heap.size := (Array.getElem?_eq_some_iff.1 hK9).1
    have HK2 : Bx (w2.heap[D]? = some (.deferred (some []))) := ⟨(hgr2.block D hDl (fun e => by
      rcases HROW.out.2 with ⟨e1, _⟩ | ⟨g, cap, cur, e1, _, hg, _⟩
      · rw [e1] at e; simp [Value.ownBlock] at e
      · rw [e1] at e
        have e2 : D = g := by simpa [Value.ownBlock] using e
        rw [e2, hg] at hK9; cases hK9)).trans hK9⟩
    have HB2 : Bx (Below w.heap.size w w2) := ⟨hB1.grown hgr2 hB1.size (fun j hj => (HROW.out.lt j hj).1)⟩
    have hZf : Z2.Perm (ys.filter (fun z => sel front after z.x)) := by rw [HF9.out]; exact hZ2
    have HL2 : Bx (Z2.map (·.x) = L.filter (sel front after)) := ⟨scL_of hr HS.out.zx hperm hZf hs2⟩
    have hZ2l : Z2.length = nf := by rw [hZ2.length_eq, HNF.out]
    have HPT : Bx (PT (fun _ => True) w2 a1 nf c1 (L.filter (sel front after))) := ⟨by
      rw [← HL2.out]
      refine pt_of_own hrow2 hZ2l fun z hz => ?_
      have h1 : z ∈ Z := hperm.subset (List.mem_filter.1 (hZf.subset hz)).1
      exact (HS.out.zb z h1).1.keep (fun hp p e => HB2.out.block _ (HS.out.lt _ ((HS.out.zb z h1).2 hp p e).1)) HB2.out.size⟩
    have HVL : Bx (∀ p ∈ L.filter (sel front after), p.2.length ≤ 4200) := ⟨fun p hp => Nat.le_trans (HS.out.mo.v p (hr.p.subset (List.mem_filter.1 hp).1)) (by decide)⟩
    have cO2 := bO2.cell
    have hcap1 := HPT.out.le_cap
    have HSW : Bx (W.heap.size ≤ w2.heap.size) := ⟨hgr2.size⟩
    have HD := Bx.mk hD
    clear hrow2 hgr2 hZ2 hs2 hZf hK9 hB1 HROW HBO bO2 cO HF9
    have hmm : (min (max most 0) (nf : Int)).toNat = min most.toNat nf := by omega
    have HMM := Bx.mk hmm
    clear hmm
    gi_wp2_with fail
    rw [HMM.out]
    refine ⟨trivial, (callsIn_wide.2 (copied_any a1 _ c1 _ _ _ (HPT.out.take (min most.toNat nf) (by omega)) (fun p hp => HVL.out p (List.mem_of_mem_take hp)) (by omega))).mono ?_⟩
    rintro e w3 ⟨v9, rfl, hPL, hb9⟩
    have hK3 := (hb9.block D (Nat.lt_of_lt_of_le hDl HSW.out)).trans HK2.out
    have hlst : (L.filter (sel front after)).take (min most.toNat nf) = scL L front after most := by
      unfold scL
      have h1 := HPT.out.len_eq
      rw [← h1, ← List.take_take, List.take_length]
    have HPF9 : Bx (∀ o', PL (w3.putObj D o') (fun k => w.heap.size ≤ k ∧ k < (w3.putObj D o').heap.size) v9 (scL L front after most)) := ⟨fun o' => by
      rw [← hlst]
      refine hPL.keep (fun k _ hk => World.putObj_heap_other (fun e => ?_)) (by simp) (fun k _ hk => ⟨Nat.le_trans HB2.out.size hk.1, by simpa using hk.2⟩)
      have h1 := HSW.out; have h2 := hk.1; omega⟩
    have HBF := Bx.mk (bstep HB2.out hb9)
    obtain ⟨a9, n9, c9, rfl⟩ : ∃ a n c, v9 = .slice a n c := by obtain ⟨a9, c9, h9, _⟩ := hPL.form; exact ⟨a9, _, c9, h9⟩
    have hWs : w.heap.size ≤ D := by have := HD.out; omega
    clear hPL hb9 hlst HPT HVL HL2
    gi_wp2
    refine ⟨by simp, .inl ⟨_, _, rfl, run_takeDeferred hK3, ?_⟩⟩
    exact ⟨_, results_tmp rfl _ _ _, _, rfl, HPF9.out _, HBF.out.trans (belowK_b (w := w) (Nat.le_refl _) w3 D _ _ hWs hK3 rfl rfl)⟩
  case stop =>
    rintro D c pre W _ _ h _
    exact h.elim
end Go.Proofs.YtipakjenggeflaaGreatDoor
