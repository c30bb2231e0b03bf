/- What Whole answers. -/
import Derived.Test.YtdameoejigpnhaaGreatDoorWTake
namespace Go.Proofs.YtdameoejigpnhaaGreatDoor
open Go.RowKit
set_option linter.unusedVariables false

variable {g : Nat} {own : Nat → Prop}
set_option maxRecDepth 100000 in
theorem wat_keep {w w' : World} (hb : ∀ k, own k → w'.heap[k]? = w.heap[k]?) (hs : w.heap.size ≤ w'.heap.size) : ∀ {r : WR}, Wat w g own r → Wat w' g own r
  | .ok (.head h lines cnt cur), ⟨line, LV, cr, h1, hi, hm⟩ => ⟨line, LV, cr, h1, hi, Bk.keep hm hb hs⟩
  | .ok (.fix h left body), ⟨H, hx, h1, h2, CV, hB⟩ => ⟨H, hx, h1, h2, CV, hB.keep hb hs⟩
  | .ok (.chk h c), ⟨H, hx, h1, g2, own2, hB, hR, h2⟩ => ⟨H, hx, h1, g2, own2, hB.keep hb hs, hR.keep (fun k hk => hb k (h2 k hk).1) hs, h2⟩
  | .ok (.done x), ⟨H, h, hx, hh⟩ => by
    rcases hh with ⟨body, h1, h2, CV, hB⟩ | ⟨c, h1, g2, own2, hB, hR, h2⟩
    · exact ⟨H, h, hx, .inl ⟨body, h1, h2, CV, hB.keep hb hs⟩⟩
    · exact ⟨H, h, hx, .inr ⟨c, h1, g2, own2, hB.keep hb hs, hR.keep (fun k hk => hb k (h2 k hk).1) hs, h2⟩⟩
  | .bad, hB => Bk.keep hB hb hs
set_option maxRecDepth 100000 in
theorem wat_below {w w' : World} {r : WR} (h : Wat w g own r) (hb : Below w.heap.size w w') : Wat w' g own r := wat_keep (fun k hk => hb.block k ((wat_own h).2 k hk)) hb.size h
set_option maxRecDepth 100000 in
theorem wtake_any (r : WR) (w : World) (h : Wat w g own r) :
    Calls Tryz.prog 20 #[.pointer (some ⟨g, 0, none⟩)] w fun e w' => ∃ v own', e = .returned (.tuple #[reqV (tkX r) v, .bool (tkB r)]) ∧ Wat w' g own' (tkS r) ∧ TakP own g (tkX r) w w' v own' := by
  have NO : ∀ (x : Int) (c0 : w.cell? ⟨g, 0, none⟩ = some (.int .i64 x)) (h0 : x ≠ 0) (h3 : x ≠ 3) (hX : tkX r = wx0) (hB : tkB r = false) (hS : tkS r = r), Calls Tryz.prog 20 #[.pointer (some ⟨g, 0, none⟩)] w fun e w' => ∃ v own', e = .returned (.tuple #[reqV (tkX r) v, .bool (tkB r)]) ∧ Wat w' g own' (tkS r) ∧ TakP own g (tkX r) w w' v own' := by
    intro x c0 h0 h3 hX hB hS
    refine (wtake_no x w ((wat_own h).2 g (wat_own h).1) c0 h0 h3).mono ?_
    rintro e w' ⟨rfl, hb⟩
    rw [hX, hB, hS]
    exact ⟨.slice none 0 0, own, rfl, wat_below h hb, Byt.nil, World.ownsRow_nil _ _ _ _, fun k hk => (by cases hk), Did.same (Kept.of_below hb)⟩
  match r, h with
  | .ok (.head h lines cnt cur), ⟨line, LV, cr, _, _, hm⟩ => exact NO 1 hm.c0 (by decide) (by decide) rfl rfl rfl
  | .ok (.fix h left body), ⟨H, _, _, _, CV, hB⟩ => exact NO 2 (hB.cell 0) (by decide) (by decide) rfl rfl rfl
  | .ok (.chk h c), ⟨H, _, _, g2, own2, hB, _⟩ => exact NO 2 (hB.cell 0) (by decide) (by decide) rfl rfl rfl
  | .bad, hB => exact NO 4 (Bk.cell hB 0) (by decide) (by decide) rfl rfl rfl
  | .ok (.done x), ⟨H, h, hx, hh⟩ =>
    rcases hh with ⟨body, rfl, h2, CV, hB⟩ | ⟨c, rfl, g2, own2, hB, hR, h2⟩
    · exact wtake_yes H h 0 CV (.pointer none) CV body body w hx hB (fun w0 hb => wsaid_fix H 0 3 body w0 ⟨CV, hB.below hb⟩)
    · exact wtake_yes H h 0 (.slice none 0 0) (.pointer (some ⟨g2, 0, none⟩)) (.slice none 0 0) [] c.body w hx hB (fun w0 hb => wsaid_chk H 3 c w0 ⟨g2, own2, hB.below hb, hR.below hb, h2⟩)
set_option maxRecDepth 100000 in
theorem results_rtt {fn : Func} {s u p : Tmp} (h : fn.results = #[.cell p 26, .tmp s, .tmp u]) (tmps : Array Value) (w : World) (g : Nat) (cs : Array Value) (v v2 : Value)
    (hs : tmps.getD s undef = v) (hu : tmps.getD u undef = v2) (hp : tmps.getD p undef = .pointer (some ⟨g, 0, none⟩)) (hg : w.heap[g]? = some (.cells cs 26 (0, 0))) (hi : (Tryz.prog.info? 26).map (·.size) = some cs.size) :
    (results fn tmps).run Tryz.prog w = .ok (.tuple #[.agg cs, v, v2]) w := by
  have hp' : tmps[p]?.getD undef = .pointer (some ⟨g, 0, none⟩) := by simpa using hp
  have hs' : tmps[s]?.getD undef = v := by simpa using hs
  have hu' : tmps[u]?.getD undef = v2 := by simpa using hu
  simp [results, h, hp', hs', hu', asAddr, run_loadVar_row w g 26 26 cs (0, 0) _ hg Tryz.underlying26 rfl hi]
/-- the state of the loop -/
structure QL (w wr : World) (g : Nat) (own : Nat → Prop) (s : WS) (l : List Int) (k : Nat) (T : WX × Nat × Int) : Prop where
  wat : Wat wr g own (.ok s)
  low : ∀ j, own j → w.heap.size + 1 ≤ j
  bel : Below w.heap.size w wr
  res : wr.heap[w.heap.size]? = some (.cells reqZ 26 (0, 0))
  run : runQ wp0 s (l.drop k) k = T
  ov : s.over = false
/-- what Whole answers -/
def WhP (T : WX × Nat × Int) (w : World) (e : Ending) (w' : World) : Prop := ∃ v, e = .returned (.tuple #[reqV T.1 v, .int .i64 (T.2.1 : Int), .int .i64 T.2.2]) ∧ Byt T.1.b ∧ w'.ownsRow w.heap.size 5 1 v T.1.b.length (bv T.1.b) ∧ Below w.heap.size w w'
set_option maxRecDepth 100000 in
/-- the answer's place is written -/
theorem ans_put {w wr : World} (hr : wr.heap[w.heap.size]? = some (.cells reqZ 26 (0, 0))) (hb : Below w.heap.size w wr) (cs : Array Value) (hc : cs.size = 4) :
    wr.there w.heap.size 0 4 ∧ (wr.setCells w.heap.size 0 cs.toList).heap[w.heap.size]? = some (.cells cs 26 (0, 0)) ∧ Below w.heap.size w (wr.setCells w.heap.size 0 cs.toList) :=
  ⟨there_row hr, heap_stored hr hc, below_setCells hb _ (Nat.le_refl _) _ 0⟩
set_option maxRecDepth 100000 in
set_option maxHeartbeats 2000000 in
theorem wwhole_any (a : Option Addr) (len cap : Nat) (l : List Int) (w : World) (h : Bts w a len cap l) (he : Env w.heap.size w) :
    Calls Tryz.prog 11 #[.slice a len cap] w (WhP (runQ wp0 ws0 l 0) w) := by
  have hl : Hid (l.length = len) := h.len_eq
  have hmx := Nat.le_trans h.le_cap h.cap_le
  unfold maxLen at hmx
  have HBY : Hid (Byt l) := h.byt
  have H := Bx.mk h
  have HE := Bx.mk he
  have HV : Bx (runQ wp0 ws0 l 0 = runQ wp0 ws0 l 0) := ⟨rfl⟩
  generalize hT : runQ wp0 ws0 l 0 = T
  have HT := Bx.mk hT
  clear h he hT HV
  have hb0 : Below w.heap.size w (w.alloc (.cells reqZ 26)) := (Below.refl _ _).alloc (Nat.le_refl _) _
  have HB0 := Bx.mk hb0
  have HROW : Bx ((w.alloc (.cells reqZ 26)).heap[w.heap.size]? = some (.cells reqZ 26 (0, 0))) := ⟨heap_alloc_new w _⟩
  have HSZ : Bx ((w.alloc (.cells reqZ 26)).heap.size = w.heap.size + 1) := ⟨by simp⟩
  have C1 : Hid (Calls Tryz.prog 16 #[] (w.alloc (.cells reqZ 26)) fun e w' => e = .returned (.pointer (some ⟨(w.alloc (.cells reqZ 26)).heap.size, 0, none⟩)) ∧ Wat w' (w.alloc (.cells reqZ 26)).heap.size (fun k => k = (w.alloc (.cells reqZ 26)).heap.size) (.ok ws0) ∧ Below (w.alloc (.cells reqZ 26)).heap.size (w.alloc (.cells reqZ 26)) w') := wnew_any _
  clear hb0
  generalize hw1 : w.alloc (.cells reqZ 26) = W1 at *
  unfold reqZ at hw1
  go_enter Tryz.func11, Tryz.ntmps11
  go_wp2_with fail
  refine C1.out.mono ?_
  rintro e w1 ⟨rfl, hw, hb1⟩
  generalize hg : W1.heap.size = g at hw ⊢
  have HQ0 : Bx (QL w w1 g (fun k => k = g) ws0 l 0 T) := ⟨hw, fun k hk => by rw [hk, ← hg, HSZ.out]; exact Nat.le_refl _, bstep HB0.out hb1, by rw [hb1.block w.heap.size (by rw [HSZ.out]; omega)]; exact HROW.out, HT.out, rfl⟩
  clear hw hb1 hg hw1 C1
  go_wp2
  go_loopw [15] (fun i wr => ∃ (k : Nat) (own : Nat → Prop) (s : WS), k ≤ len ∧ i = .int .i64 k ∧ Bx (QL w wr g own s l k T)) (fun i _ => len - (intOf i).toNat)
  case atStart => exact ⟨0, _, _, Nat.zero_le _, rfl, HQ0⟩
  case round =>
    clear HQ0
    obtain ⟨k, own, s, hk, rfl, HS⟩ := hrel
    by_cases hlt : k < len
    · have hkI : (k : Int) < (len : Int) := by omega
      have hbt := H.out.below HS.out.bel
      obtain ⟨b, off, rfl, _, hc⟩ := hbt.spot (by omega)
      have hcell := hc k hlt
      have hbd := HBY.out.getD k
      have HR : Bx (runQ wp0 s (l.getD k 0 :: l.drop (k + 1)) k = T) := ⟨by rw [← drop_head l k (by rw [hl.out]; exact hlt)]; exact HS.out.run⟩
      generalize l.getD k 0 = C at hcell hbd HR
      clear hc hbt
      go_wp2_with fail
      refine (wput_any w.heap.size (.ok s) C _ HS.out.wat hbd (HE.out.below HS.out.bel) HS.out.bel.size (fun j hj => by have := HS.out.low j hj; omega)).mono ?_
      rintro e w2 ⟨rfl, own2, hw2, hd2⟩
      have HB2 : Bx (Below w.heap.size w w2) := ⟨HS.out.bel.trans (hd2.kept.low (fun j hj => by have := HS.out.low j hj; omega) HS.out.bel.size)⟩
      have HL2 : Bx (∀ j, own2 j → w.heap.size + 1 ≤ j) := ⟨fun j hj => by
        rcases hd2.new j hj with h1 | h1
        · exact HS.out.low j h1
        · have h2 := (Array.getElem?_eq_some_iff.1 HS.out.res).1; omega⟩
      have HR2 : Bx (w2.heap[w.heap.size]? = some (.cells reqZ 26 (0, 0))) := ⟨by
        rw [hd2.kept.block w.heap.size (Array.getElem?_eq_some_iff.1 HS.out.res).1 (fun ho => by have := HS.out.low _ ho; omega)]; exact HS.out.res⟩
      have hov := HS.out.ov
      have PS : puS wp0 (.ok s) C = if (wst wp0 s C).2 ≠ 0 then .bad else .ok (wst wp0 s C).1 := by
        show (if s.over = true then _ else _) = _
        rw [if_neg (by rw [hov]; decide)]
      have PD : puD wp0 (.ok s) C = decide ((wst wp0 s C).2 = 0 ∧ (wst wp0 s C).1.over = true) := decide_eq_decide.2 ⟨fun h => h.2, fun h => ⟨hov, h⟩⟩
      have PE : puE wp0 (.ok s) C = (wst wp0 s C).2 := rfl
      have HR3 : Bx ((if (wst wp0 s C).2 ≠ 0 then (wx0, 0, (wst wp0 s C).2) else runQ wp0 (wst wp0 s C).1 (l.drop (k + 1)) (k + 1)) = T) := ⟨by rw [← runQ_cons wp0 hov]; exact HR.out⟩
      rw [PS] at hw2
      rw [PD, PE]
      clear PS PD PE hov HR hd2
      generalize wst wp0 s C = ST at *
      obtain ⟨S2, E⟩ := ST
      simp only at HR3 hw2 ⊢
      by_cases h0 : E = 0
      · subst h0
        rw [if_neg (by simp)] at hw2 HR3
        cases hov2 : S2.over with
        | true =>
          obtain ⟨x, rfl⟩ : ∃ x, S2 = .done x := by
            cases S2 with
            | done x => exact ⟨x, rfl⟩
            | head _ _ _ _ => cases hov2
            | fix _ _ _ => cases hov2
            | chk _ _ => cases hov2
          have HT2 : Bx (T = (x, k + 1, 0)) := ⟨by rw [← HR3.out, runQ_done]⟩
          have HW2 := Bx.mk hw2
          clear hw2 HR3 hov2
          rw [show decide ((0 : Int) = 0 ∧ true = true) = true from by decide]
          go_wp2_with fail
          refine (wtake_any (.ok (.done x)) _ HW2.out).mono ?_
          rintro e w3 ⟨v3, own3, rfl, _, ht1, ht2, ht3, ht4⟩
          obtain ⟨va, vc, hv3⟩ := own_sl ht2
          have HB3 : Bx (Below w.heap.size w w3) := ⟨HB2.out.trans (ht4.kept.low (fun j hj => by have := HL2.out j hj; omega) HB2.out.size)⟩
          have hr3 : w3.heap[w.heap.size]? = some (.cells reqZ 26 (0, 0)) := by
            rw [ht4.kept.block w.heap.size (Array.getElem?_eq_some_iff.1 HR2.out).1 (fun ho => by have := HL2.out _ ho; omega)]; exact HR2.out
          subst hv3
          have hone := req_one x.m x.t x.k (.slice va x.b.length vc) rfl
          have HONE := Bx.mk hone
          have hb4 : Below w3.heap.size w3 (w3.alloc (.cells #[.string x.m, .string x.t, .string x.k, .slice va x.b.length vc] 26)) := (Below.refl _ _).alloc (Nat.le_refl _) _
          have HY : Bx ((w3.alloc (.cells #[.string x.m, .string x.t, .string x.k, .slice va x.b.length vc] 26)).heap[w3.heap.size]? = some (.cells #[.string x.m, .string x.t, .string x.k, .slice va x.b.length vc] 26 (0, 0))) := ⟨heap_alloc_new w3 _⟩
          have hr4 : (w3.alloc (.cells #[.string x.m, .string x.t, .string x.k, .slice va x.b.length vc] 26)).heap[w.heap.size]? = some (.cells reqZ 26 (0, 0)) := by
            rw [hb4.block w.heap.size (Array.getElem?_eq_some_iff.1 hr3).1]; exact hr3
          obtain ⟨q1, q2, q3⟩ := ans_put hr4 (bstep HB3.out hb4) #[.string x.m, .string x.t, .string x.k, .slice va x.b.length vc] rfl
          have HOWN : Bx (((w3.alloc (.cells #[.string x.m, .string x.t, .string x.k, .slice va x.b.length vc] 26)).setCells w.heap.size 0 #[.string x.m, .string x.t, .string x.k, .slice va x.b.length vc].toList).ownsRow w.heap.size 5 1 (.slice va x.b.length vc) x.b.length (bv x.b)) := ⟨by
            have hh : ∀ j, (Value.slice va x.b.length vc).ownBlock = some j → w.heap.size < j := fun j hj => by
              have hz := (Array.getElem?_eq_some_iff.1 HR2.out).1
              rcases (ht3 j hj).2 with h1 | h1
              · have := HL2.out j h1; omega
              · omega
            have h5 : w3.ownsRow w.heap.size 5 1 (.slice va x.b.length vc) x.b.length (bv x.b) := by
              refine ⟨ht2.1, ?_⟩
              rcases ht2.2 with h1 | ⟨g', cap', cur, hv, _, r⟩
              · exact .inl h1
              · exact .inr ⟨g', cap', cur, hv, by have := hh g' ((congrArg Value.ownBlock hv).trans rfl); omega, r⟩
            exact owns_setCells (owns_below h5 hb4) (fun j hj => by have := hh j hj; omega)⟩
          have HQ1 := Bx.mk q1
          have HQ2 := Bx.mk q2
          have HQ3 := Bx.mk q3
          have HBT := Bx.mk ht1
          obtain ⟨W4, hW4⟩ : ∃ W4, w3.alloc (.cells #[.string x.m, .string x.t, .string x.k, .slice va x.b.length vc] 26) = W4 := ⟨_, rfl⟩
          rw [hW4] at HY HOWN HQ1 HQ2 HQ3
          have HW4 := Bx.mk hW4
          clear hone hb4 hr3 hr4 q1 q2 q3 ht1 ht2 ht3 ht4 HB2 HL2 HR2 hW4
          unfold reqV tkX tkB
          simp only
          go_wp2_with (first
            | (rw [HW4.out]; have HY5 := HY; have HQ5 := HQ1; clear HW4)
            | (refine wpList_load_row rfl 26 (.tmp 10) rfl w3.heap.size rfl 26 #[.string x.m, .string x.t, .string x.k, .slice va x.b.length vc] (0, 0) _ HY5.out Tryz.underlying26 rfl req_info ?_)
            | (refine wpList_store_mid rfl 26 (.tmp 2) (.tmp 36) rfl w.heap.size 0 #[.string x.m, .string x.t, .string x.k, .slice va x.b.length vc] rfl rfl HQ5.out req_info HONE.out ?_))
          refine bodyPost_ret (v := .tuple #[.agg #[.string x.m, .string x.t, .string x.k, .slice va x.b.length vc], .int .i64 ((k : Int) + 1), .int .i64 0]) (results_rtt rfl _ _ w.heap.size _ _ _ rfl rfl rfl HQ2.out req_info) rfl ⟨.slice va x.b.length vc, ?_, ?_⟩
          · rw [HT2.out]; rfl
          · rw [HT2.out]; exact ⟨HBT.out, HOWN.out, HQ3.out⟩
        | false =>
          rw [show decide ((0 : Int) = 0 ∧ false = true) = false from by decide]
          have HQ : Bx (QL w w2 g own2 S2 l (k + 1) T) := ⟨hw2, HL2.out, HB2.out, HR2.out, HR3.out, hov2⟩
          clear hw2 HR3 hov2
          go_wp2
          go_roundw
          case rel => exact ⟨k + 1, own2, S2, by omega, by go_num, HQ⟩
          case measure => simp [intOf]; omega
      · have hne : (E != 0) = true := by simpa using h0
        have HT2 : Bx (T = (wx0, 0, E)) := ⟨by rw [← HR3.out, if_pos h0]⟩
        obtain ⟨q1, q2, q3⟩ := ans_put HR2.out HB2.out reqZ rfl
        have HQ1 := Bx.mk q1
        have HQ2 := Bx.mk q2
        have HQ3 := Bx.mk q3
        generalize decide (E = 0 ∧ S2.over = true) = DD
        clear hw2 HR3 h0 q1 q2 q3
        go_wp2_with (refine wpList_store_mid rfl 26 (.tmp 2) (.tmp 28) rfl w.heap.size 0 reqZ rfl rfl HQ1.out req_info (by simp [Value.oneCell', reqZ]) ?_)
        refine bodyPost_ret (v := .tuple #[.agg reqZ, .int .i64 0, .int .i64 E]) (results_rtt rfl _ _ w.heap.size reqZ _ _ rfl rfl rfl HQ2.out req_info) rfl ⟨.slice none 0 0, ?_, ?_⟩
        · rw [HT2.out]; rfl
        · rw [HT2.out]; exact ⟨Byt.nil, World.ownsRow_nil _ _ _ _, HQ3.out⟩
    · have hge : ¬ (k : Int) < (len : Int) := by omega
      have HT2 : Bx (T = (wx0, 0, 3)) := ⟨by rw [← HS.out.run, List.drop_of_length_le (by rw [hl.out]; omega), runQ_nil wp0 HS.out.ov]⟩
      obtain ⟨q1, q2, q3⟩ := ans_put HS.out.res HS.out.bel reqZ rfl
      have HQ1 := Bx.mk q1
      have HQ2 := Bx.mk q2
      have HQ3 := Bx.mk q3
      clear q1 q2 q3
      go_wp2_with (refine wpList_store_mid rfl 26 (.tmp 2) (.tmp 40) rfl w.heap.size 0 reqZ rfl rfl HQ1.out req_info (by simp [Value.oneCell', reqZ]) ?_)
      refine bodyPost_ret (v := .tuple #[.agg reqZ, .int .i64 0, .int .i64 3]) (results_rtt rfl _ _ w.heap.size reqZ _ _ rfl rfl rfl HQ2.out req_info) rfl ⟨.slice none 0 0, ?_, ?_⟩
      · rw [HT2.out]; rfl
      · rw [HT2.out]; exact ⟨Byt.nil, World.ownsRow_nil _ _ _ _, HQ3.out⟩
end Go.Proofs.YtdameoejigpnhaaGreatDoor
