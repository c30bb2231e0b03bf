/- What Print answers: the walk. -/
import Derived.Test.YtjlclgmbenhakaaDoorCPrint
namespace Go.Proofs.YtjlclgmbenhakaaDoor
open Go.RowKit Go.Shelf
attribute [local go_sem] Oper.semAt_some

set_option maxRecDepth 100000 in
set_option maxHeartbeats 1000000 in
theorem cprint_bad (a : Option Addr) (len cap : Nat) (x : Int) (b : List Int) (w : World) (h : Bts w a len cap b) (he : pnE x b.length ≠ 0) :
    Calls Tryd.prog 8 #[.slice a len cap, .int .i64 x] w fun e w' => e = .returned (.tuple #[.slice none 0 0, .int .i64 (pnE x b.length)]) ∧ w = w' := by
  have hl := h.len_eq
  have hm := Nat.le_trans h.le_cap h.cap_le
  unfold maxLen at hm
  clear h
  by_cases h1 : x < 1
  · have HE : Bx (pnE x b.length = 2) := ⟨by unfold pnE; rw [if_pos (.inl h1)]⟩
    have g1 : decide (x < 1) = true := by simpa using h1
    clear h1 he hl
    go_enter Tryd.func8, Tryd.ntmps8
    go_wp2
    go_ret2
    exact ⟨by rw [HE.out]; rfl, rfl⟩
  · have g1 : decide (x < 1) = false := by simpa using h1
    by_cases h2 : 2048 < x
    · have HE : Bx (pnE x b.length = 2) := ⟨by unfold pnE; rw [if_pos (.inr h2)]⟩
      have g2 : decide (x > 2048) = true := by simpa using h2
      clear h1 h2 he hl
      go_enter Tryd.func8, Tryd.ntmps8
      go_wp2
      go_ret2
      exact ⟨by rw [HE.out]; rfl, rfl⟩
    · have g2 : decide (x > 2048) = false := by simp; omega
      have h3 : 2048 < b.length := by
        unfold pnE at he
        rw [if_neg (by omega)] at he
        split at he
        · assumption
        · simp at he
      have HE : Bx (pnE x b.length = 5) := ⟨by unfold pnE; rw [if_neg (by omega), if_pos h3]⟩
      have g3 : decide ((len : Int) > 2048) = true := by simp; omega
      clear h1 h2 h3 he hl
      go_enter Tryd.func8, Tryd.ntmps8
      go_wp2
      go_ret2
      exact ⟨by rw [HE.out]; rfl, rfl⟩
set_option maxRecDepth 100000 in
set_option maxHeartbeats 4000000 in
set_option maxRecDepth 100000 in
theorem cprint_ok (a : Option Addr) (len cap size : Nat) (b : List Int) (w : World) (h : Bts w a len cap b) (hB : Bru w) (hs1 : 1 ≤ size) (hs2 : size ≤ 2048) (hl2 : len ≤ 2048) :
    Calls Tryd.prog 8 #[.slice a len cap, .int .i64 (size : Int)] w fun e w' => ∃ v, e = .returned (.tuple #[v, .int .i64 0]) ∧ w'.ownsRow w.heap.size 5 1 v (prL size b).length (bv (prL size b)) ∧ Below w.heap.size w w' := by
  have hl := h.len_eq
  have hlc := h.le_cap
  have g1 : decide ((size : Int) < 1) = false := by simp; omega
  have g2 : decide ((size : Int) > 2048) = false := by simp; omega
  have g3 : decide ((len : Int) > 2048) = false := by simp; omega
  have H := Bx.mk h
  have HBR := Bx.mk hB
  have HLN := Bx.mk hl
  clear h hB hl
  refine (callsIn_wide (n := 9)).1 ?_
  refine callsIn_of_wp_marks Tryd.func8 rfl trivial ?_ rfl
  simp only [Tryd.ntmps8, List.size_toArray, List.length_cons, List.length_nil, Nat.reduceAdd, Nat.reduceSub, Array.replicate_succ, Array.replicate_zero, List.push_toArray, List.append_toArray, List.nil_append, List.cons_append]
  gi_wp2_with fail
  refine ⟨trivial, (chunkf_in _ a len cap size _ hs1 hs2).mono ?_⟩
  rintro e w' ⟨rfl, rfl⟩
  gi_wp2_with fail
  have bO := ((Boxed.new w 22 (.slice none 0 0)).alloc (.cells #[.slice a len cap] 22)).alloc (.cells #[.int .i64 (size : Int)] 3)
  have bS := (Boxed.new (w.alloc (.cells #[.slice none 0 0] 22)) 22 (.slice a len cap)).alloc (.cells #[.int .i64 (size : Int)] 3)
  have bN := Boxed.new ((w.alloc (.cells #[.slice none 0 0] 22)).alloc (.cells #[.slice a len cap] 22)) 3 (.int .i64 (size : Int))
  simp only [World.size_alloc] at bS bN
  have hB0 : Below w.heap.size w (((w.alloc (.cells #[.slice none 0 0] 22)).alloc (.cells #[.slice a len cap] 22)).alloc (.cells #[.int .i64 (size : Int)] 3)) := (((Below.refl _ w).alloc (Nat.le_refl _) _).alloc (by simp) _).alloc (by simp; omega) _
  have hsz : (((w.alloc (.cells #[.slice none 0 0] 22)).alloc (.cells #[.slice a len cap] 22)).alloc (.cells #[.int .i64 (size : Int)] 3)).heap.size = w.heap.size + 3 := by simp
  generalize ((w.alloc (.cells #[.slice none 0 0] 22)).alloc (.cells #[.slice a len cap] 22)).alloc (.cells #[.int .i64 (size : Int)] 3) = W0 at bO bS bN hB0 hsz ⊢
  obtain ⟨B, hBe⟩ : ∃ B, B = w.heap.size := ⟨_, rfl⟩
  have HBE := Bx.mk hBe
  rw [← hBe] at bO bS bN hsz ⊢
  have HI0 : PrI w B a len cap size b [] W0 := ⟨⟨_, bO, World.ownsRow_nil _ _ _ _⟩, bS, bN, hB0⟩
  clear hBe g1 g2 g3
  refine wpIn_rangeFunc_ownG rfl (by decide) (gf := 20) (lb := #[.pointer (some ⟨B + 1, 0, none⟩), .pointer (some ⟨B + 1 + 1, 0, none⟩)]) rfl trivial (enters_of Tryd.func20 (by kernel_rfl) rfl)
    (chunk_stops 8 (by decide) (B + 1) (B + 1 + 1) a len cap size W0 bS bN hlc hs1 hs2 hl2) BoxK.trans
    (fun W l o o' hl ho hc _ => ⟨by simp, World.putObj_heap_other (fun e => by omega), World.putObj_heap_other (fun e => by omega)⟩) (Below.refl _ _) (fun _ => rfl)
    (PrI w B a len cap size b) (fun _ _ _ => False)
    (fun pre W W' row hI hg hr => hI.step (by rw [HBE.out]; exact Nat.le_refl _) hg (fun r e => ⟨by have := (hr r e).1; omega, (hr r e).2⟩))
    (fun _ _ _ _ _ hs _ _ => hs) HI0
    (fun x => { tmps := #[.slice a len cap, .int .i64 (size : Int), undef, undef, .slice none 0 0, .int .i64 0, .pointer (some ⟨B, 0, none⟩), pcS a len size x, .int .i64 (size : Int), .bool false, .bool false, .int .i64 (size : Int), .bool false, .bool false, .slice a len cap, .int .i64 (len : Int), .bool false, .slice a len cap, .int .i64 (size : Int), .func (.func 20) #[] #[.pointer (some ⟨B + 1, 0, none⟩), .pointer (some ⟨B + 1 + 1, 0, none⟩)], pcS a len size x, undef, undef, undef, undef, undef], defers := [] })
    ?assign ?body ?done ?stop
  case assign =>
    rintro l x W K hK
    rw [show pcV a len size x = #[pcS a len size x] from rfl]
    gi_wp2
    exact hK
  case body =>
    rintro l pre x W hI hlt
    obtain ⟨v, hv, ho⟩ := hI.out
    have cO := hv.cell
    have hxl := x.lt
    have hpl := pcO_len len size b hs2 pre
    obtain ⟨q, hq⟩ : ∃ q, q = pcE len size x.k := ⟨_, rfl⟩
    have hq1 : x.k * size < q ∧ q ≤ len ∧ q - x.k * size ≤ size ∧ q = min (x.k * size + size) len := by
      unfold pcE at hq
      omega
    have hbt : Bts W (slA a (x.k * size) q) (q - x.k * size) (q - x.k * size) ((b.drop (x.k * size)).take size) := by
      have h1 := (H.out.below hI.bel).clip (x.k * size) q (by omega) hq1.2.1
      have h2 : (b.drop (x.k * size)).take (q - x.k * size) = (b.drop (x.k * size)).take size := by
        by_cases hc : x.k * size + size ≤ len
        · rw [show q - x.k * size = size from by omega]
        · rw [List.take_of_length_le (by rw [List.length_drop, HLN.out]; omega), List.take_of_length_le (by rw [List.length_drop, HLN.out]; omega)]
      rw [h2] at h1
      exact h1
    have hap : Apart v (slA a (x.k * size) q) (q - x.k * size) := fun hp p e e2 => by
      obtain ⟨y, hy1, hy2⟩ := slA_block e
      obtain ⟨bb, off, e3, hbl, _⟩ := H.out.spot (by omega)
      have h3 := (ho.lt _ e2).1
      rw [hy1] at e3
      cases e3
      have h4 : p.block = bb := hy2
      omega
    have HPC := Bx.mk (putchunk_any w.heap.size _ v _ (slA a (x.k * size) q) (q - x.k * size) (q - x.k * size) _ W (HBR.out.below hI.bel) ho hbt hap hI.bel.size HBR.out.pos (by omega) (by omega) (by omega))
    rw [show pcS a len size x = .slice (slA a (x.k * size) q) (q - x.k * size) (q - x.k * size) from by unfold pcS; rw [← hq]]
    have HI := Bx.mk hI
    have HV := Bx.mk hv
    have HO := Bx.mk ho
    have hBle : w.heap.size ≤ B := by rw [HBE.out]; exact Nat.le_refl _
    clear hq hq1 hbt hap hI hv ho hpl
    gi_wp2_with fail
    refine ⟨trivial, (CallsIn.inRound l (callsIn_wide.2 HPC.out)).mono ?_⟩
    rintro e w1 ⟨v1, rfl, ho1, hk1, hl1⟩
    obtain ⟨k1, f1, hKO, hBK, hI2⟩ := HI.out.more hBle HV.out HO.out hk1 hl1 ho1
    obtain ⟨a1, c1, hv1⟩ := own_sl ho1
    subst hv1
    clear ho1 hk1 hl1 HPC HI HV HO cO
    gi_wp2
    exact ⟨hKO.from _, hBK, hI2⟩
  case done =>
    rintro D ys W hD hperm hI hK9
    obtain ⟨v, hv, ho⟩ := hI.out
    have cO := hv.cell
    have hyl : ys.length ≤ len := by
      refine Classical.byContradiction fun hc => ?_
      have h1 := hperm.1
      have h2 : len < ys.length := by omega
      have h3 : (ys.map (·.k))[len]? = some len := by rw [h1, List.getElem?_range h2]
      rw [List.getElem?_map, List.getElem?_eq_getElem h2] at h3
      have h4 : ys[len].k = len := by simpa using h3
      have h5 := ys[len].lt
      rw [h4] at h5
      have h6 : len * 1 ≤ len * size := Nat.mul_le_mul_left len hs1
      omega
    have hpl := pcO_len len size b hs2 ys
    have hfin := pcO_all (b := b) hs1 HLN.out hperm.1 hperm.2
    have HFIN := Bx.mk hfin
    obtain ⟨O, hO⟩ : ∃ O, O = pcO len size b ys := ⟨_, rfl⟩
    rw [← hO] at ho hpl HFIN
    obtain ⟨nO, hnO⟩ : ∃ n, O.length = n := ⟨_, rfl⟩
    have HNO := Bx.mk hnO
    rw [hnO] at ho hpl
    have hnb : nO ≤ 100000000 := by omega
    have HO := Bx.mk ho
    have HBL := Bx.mk hI.bel
    have HK9 := Bx.mk hK9
    have HDN : Bx (v.ownBlock ≠ some D) := ⟨fun e => by
      rcases ho.2 with ⟨rfl, _⟩ | ⟨g, cp, cur, rfl, _, hg2, _⟩
      · cases e
      · obtain rfl : g = D := by simpa [Value.ownBlock] using e
        rw [hg2] at hK9; cases hK9⟩
    clear hfin hO hnO ho hI hK9 hperm hpl hyl hv
    gi_wp2_with (gi_at_builtin; refine wpListIn_append_str rfl (.tmp 24) (.const (.string endS)) rfl w.heap.size nO v O rfl HO.out endS rfl (by decide) (by rw [endS_s]; omega) HBL.out.size ?_; intro v9 w9 ho9 hk9 hl9; rw [endS_l, endS_s, HFIN.out] at ho9; have HO9 := Bx.mk ho9; have HB9 := Bx.mk (HBL.out.trans (hk9.low (fun k hk => (HO.out.lt k hk).1) HBL.out.size)); have HD9 : Bx (w9.heap[D]? = some (.deferred (some []))) := ⟨(hk9.block D (Array.getElem?_eq_some_iff.1 HK9.out).1 HDN.out).trans HK9.out⟩; clear ho9 hk9 hl9)
    have e1 : nO + 5 = (prL size b).length := by rw [← HFIN.out, List.length_append, HNO.out]; rfl
    have hWs : w.heap.size ≤ D := by rw [← HBE.out]; omega
    refine ⟨by simp, .inl ⟨_, _, rfl, run_takeDeferred HD9.out, ?_⟩⟩
    exact ⟨_, results_tmp2 rfl _ _ _, v9, rfl, by rw [← e1]; exact ownsRow_putObj HO9.out _ HD9.out rfl, HB9.out.trans (belowK_b (w := w) (Nat.le_refl _) w9 D _ _ hWs HD9.out rfl rfl)⟩
  case stop =>
    rintro D c pre W _ _ h _
    exact h.elim
end Go.Proofs.YtjlclgmbenhakaaDoor
