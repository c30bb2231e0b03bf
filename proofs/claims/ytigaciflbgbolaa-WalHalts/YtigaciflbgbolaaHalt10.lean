/- Bits of a frame on a disk are turned: no walk. -/
import Derived.Test.YtigaciflbgbolaaForge10
namespace Go.Proofs.Ytigaciflbgbolaa
open Go.RowKit
set_option linter.unusedVariables false

set_option maxRecDepth 100000 in
theorem pad64_set {b : List Int} {k : Nat} (hk : k < b.length) (v : Int) : pad64 (b.set k v) = (pad64 b).set k v := by
  unfold pad64; rw [List.length_set, List.set_append_left _ _ hk]
set_option maxRecDepth 100000 in
theorem prtN_set (n : Nat) (f : List Int) (y : Nat) (v : Int) (hy : y < f.length) (hn : f.length ≤ 64 * n) : prtN n (f.set y v) = (prtN n f).set (y / 64) (((f.drop (64 * (y / 64))).take 64).set (y % 64) v) := by
  refine list_ext_getD (by rw [List.length_set, prtN_len, prtN_len]) fun i hi => ?_
  rw [prtN_len] at hi
  rw [getD_set _ _ _ _ (by rw [prtN_len]; exact hi), prtN_getD _ _ _ hi, prtN_getD _ _ _ hi]
  by_cases he : y / 64 = i
  · rw [if_pos he, he, List.drop_set, if_neg (by omega), List.take_set]
    congr 1; omega
  · rw [if_neg he, List.drop_set]
    by_cases hlt : y < 64 * i
    · rw [if_pos hlt]
    · rw [if_neg hlt, List.take_set, List.set_eq_of_length_le]
      rw [List.length_take]; omega
set_option maxRecDepth 100000 in
theorem piece_len {f : List Int} {y : Nat} (hy : y < f.length) : y % 64 < ((f.drop (64 * (y / 64))).take 64).length := by
  rw [List.length_take, List.length_drop]; omega
set_option maxRecDepth 100000 in
theorem chk_getD (f : List Int) (i : Nat) (h : i < ns f.length) : (chk f).getD i [] = pad64 ((f.drop (64 * i)).take 64) := by
  have h1 := prt_getD f i h
  have h2 : i < (prt f).length := by rw [prt_len]; exact h
  unfold chk
  rw [List.getD_eq_getElem?_getD, List.getElem?_map, List.getElem?_eq_getElem h2]
  rw [List.getD_eq_getElem?_getD, List.getElem?_eq_getElem h2] at h1
  show pad64 _ = _
  rw [show (prt f)[i] = _ from h1]
set_option maxRecDepth 100000 in
theorem ns_lt {y n : Nat} (h : y < n) : y / 64 < ns n := by unfold ns; omega
set_option maxRecDepth 100000 in
theorem chk_set (f : List Int) (y : Nat) (v : Int) (hy : y < f.length) : chk (f.set y v) = (chk f).set (y / 64) (((chk f).getD (y / 64) []).set (y % 64) v) := by
  rw [chk_getD f _ (ns_lt hy), ← pad64_set (piece_len hy)]
  unfold chk prt
  rw [List.length_set, prtN_set _ _ _ _ hy (ns_ge _), List.map_set]
set_option maxRecDepth 100000 in
theorem chk_byte (f : List Int) (y : Nat) (hy : y < f.length) : ((chk f).getD (y / 64) []).getD (y % 64) 0 = f.getD y 0 := by
  rw [chk_getD f _ (ns_lt hy)]
  unfold pad64
  rw [List.getD_eq_getElem?_getD, List.getElem?_append_left (piece_len hy), List.getElem?_take, if_pos (by omega), List.getElem?_drop, show 64 * (y / 64) + y % 64 = y from by omega, ← List.getD_eq_getElem?_getD]
set_option maxRecDepth 100000 in
/-- frames that are read, whatever comes behind -/
theorem rfr_skip (F D : List (List Int)) (hF : Sxl F) : ∀ (R : List (List Int)) (u p : Nat) (T : List (List Int)), F.drop p = FrS T.length R ++ D → R.length ≤ u → TOk R → T.length + R.length < 1000000 → rfr F u p T = rfr F (u - R.length) (p + (FrS T.length R).length) (T ++ R) := by
  intro R
  induction R with
  | nil => intro u p T _ _ _ _; rw [List.append_nil]; rfl
  | cons t r ih =>
    intro u p T hd hu hT hs
    obtain ⟨u, rfl⟩ : ∃ v, u = v + 1 := ⟨u - 1, by simp at hu; omega⟩
    simp only [List.length_cons] at hu hs
    have hc1 := chk_len (frmL ((T.length : Int) + 1) t)
    rw [frmL_len] at hc1
    have hpos := ns_pos t.length
    have hd : F.drop p = chk (frmL ((T.length : Int) + 1) t) ++ (FrS (T.length + 1) r ++ D) := by rw [hd, FrS, List.append_assoc]
    have hfl : flat (F.drop p) = frmL ((T.length : Int) + 1) t ++ (List.replicate (64 * ns (20 + t.length) - (20 + t.length)) 0 ++ flat (FrS (T.length + 1) r ++ D)) := by
      rw [hd, flat_append, flat_chk, frmL_len, List.append_assoc]
    obtain ⟨b1, b2, b3, b4⟩ := rd_back ((T.length : Int) + 1) t (List.replicate (64 * ns (20 + t.length) - (20 + t.length)) 0 ++ flat (FrS (T.length + 1) r ++ D)) (by omega) (by omega) (hT t (by simp)).1
    rw [← hfl] at b1 b2 b3 b4
    have hlen : (F.drop p).length = F.length - p := List.length_drop
    have hlt : p < F.length := by
      have : 0 < (F.drop p).length := by rw [hd, List.length_append, hc1]; omega
      omega
    have hfst : F.getD p [] ≠ s0 := by
      have h1 := chk_first T.length t (FrS (T.length + 1) r ++ D) (by omega)
      rw [← hd, List.getD_eq_getElem?_getD, List.getElem?_drop, Nat.add_zero, ← List.getD_eq_getElem?_getD] at h1
      exact h1
    rw [rfr, if_pos ⟨hlt, hfst⟩, if_pos ⟨b1, b2⟩, b3, b4]
    have hdr : F.drop (p + ns (20 + t.length)) = FrS (T ++ [t]).length r ++ D := by
      rw [← List.drop_drop, hd, ← hc1, List.drop_left, List.length_append]; rfl
    rw [ih u (p + ns (20 + t.length)) (T ++ [t]) hdr (by omega) (fun x hx => hT x (by simp [hx])) (by rw [List.length_append]; simp; omega)]
    rw [List.append_assoc, FrS, List.length_append, List.length_append, hc1]
    show rfr F (u - r.length) _ (T ++ t :: r) = rfr F (u + 1 - (r.length + 1)) _ (T ++ t :: r)
    rw [show T.length + [t].length = T.length + 1 from rfl, Nat.add_assoc, show u + 1 - (r.length + 1) = u - r.length from by omega]
/-- the disk while bits of frame j are turned -/
structure Hs (s : DS) (T : List (List Int)) (j p0 B i : Nat) : Prop where
  off : s.off = false
  arm : s.armed = false
  fl : s.F.length = 300
  ol : s.O.length ≤ i
  now : ∃ z, s.now = FrS 0 (T.take j) ++ (chk (tnL (frmL ((j : Int) + 1) (T.getD j [])) p0 B i) ++ (FrS (j + 1) (T.drop (j + 1)) ++ Zs z))
set_option maxRecDepth 100000 in
theorem take_drop (T : List (List Int)) (j : Nat) (hj : j < T.length) : T = T.take j ++ (T.getD j [] :: T.drop (j + 1)) := by
  rw [List.getD_eq_getElem?_getD, List.getElem?_eq_getElem hj]
  show T = T.take j ++ (T[j] :: T.drop (j + 1))
  rw [← List.drop_eq_getElem_cons hj, List.take_append_drop]
set_option maxRecDepth 100000 in
theorem FrS_at (T : List (List Int)) (j : Nat) (hj : j < T.length) : FrS 0 T = FrS 0 (T.take j) ++ (chk (frmL ((j : Int) + 1) (T.getD j [])) ++ FrS (j + 1) (T.drop (j + 1))) := by
  conv => lhs; rw [take_drop T j hj]
  rw [FrS_append, List.length_take, Nat.min_eq_left (by omega), Nat.zero_add]
  rfl
set_option maxRecDepth 100000 in
theorem Hs.start {s : DS} {T : List (List Int)} (h : Rest s T) (ha : s.armed = false) (hn : s.F.length = 300) (j p0 B : Nat) (hj : j < T.length) : Hs s T j p0 B 0 := by
  obtain ⟨z, hz⟩ := h.f
  refine ⟨h.off, ha, hn, by rw [h.o]; exact Nat.le_refl _, z, ?_⟩
  rw [h.now, hz, FrS_at T j hj, List.append_assoc, List.append_assoc]
  rfl
set_option maxRecDepth 100000 in
theorem Hs.stay {s : DS} {T : List (List Int)} {j p0 B i : Nat} (h : Hs s T j p0 B i) (hb : ¬ B.testBit i = true) : Hs s T j p0 B (i + 1) :=
  ⟨h.off, h.arm, h.fl, Nat.le_succ_of_le h.ol, by rw [tnL_stay _ _ _ _ hb]; exact h.now⟩
set_option maxRecDepth 100000 in
theorem Hs.nth {s : DS} {T : List (List Int)} {j p0 B i : Nat} (h : Hs s T j p0 B i) (c : Nat) (hc : c < ns (20 + (T.getD j []).length)) : (FrS 0 (T.take j)).length + c < s.F.length ∧ s.now.getD ((FrS 0 (T.take j)).length + c) [] = (chk (tnL (frmL ((j : Int) + 1) (T.getD j [])) p0 B i)).getD c [] := by
  obtain ⟨z, hz⟩ := h.now
  have hl : (chk (tnL (frmL ((j : Int) + 1) (T.getD j [])) p0 B i)).length = ns (20 + (T.getD j []).length) := by rw [chk_len, tnL_len, frmL_len]
  constructor
  · have h1 := now_len s
    rw [hz, List.length_append, List.length_append, hl] at h1
    omega
  · rw [hz, List.getD_eq_getElem?_getD, List.getElem?_append_right (by omega), Nat.add_sub_cancel_left, List.getElem?_append_left (by omega), ← List.getD_eq_getElem?_getD]
set_option maxRecDepth 100000 in
theorem now_wr {s : DS} {x : Nat} {b : List Int} (h : s.off = false) (ha : s.armed = false) (hx : x < s.F.length) (hb : b.length = 64) : s.wrE x b = 0 ∧ (s.wr x b).now = s.now.set x b ∧ (s.wr x b).off = false ∧ (s.wr x b).armed = false ∧ (s.wr x b).F = s.F ∧ (s.wr x b).O.length = s.O.length + 1 := by
  rcases wr_on h (x := x) (b := b) hx (by omega) with ⟨e1, e2, _⟩ | ⟨_, _, e3⟩
  · have hp : pad64 b = b := by unfold pad64; rw [hb]; simp
    rw [e2]
    refine ⟨e1, ?_, h, ha, rfl, by show (s.O ++ _).length = _; simp⟩
    show app s.F (s.O ++ [(x, pad64 b)]) = _
    rw [app_append, hp]; rfl
  · rw [last_un ha] at e3; cases e3
set_option maxRecDepth 100000 in
theorem Hs.turn {s : DS} {T : List (List Int)} {j p0 B i : Nat} (h : Hs s T j p0 B i) (hb : B.testBit i = true) (hi : (p0 + i) / 8 < 20 + (T.getD j []).length) (b : List Int) (hl : b.length = 64)
    (he : b = ((chk (tnL (frmL ((j : Int) + 1) (T.getD j [])) p0 B i)).getD ((p0 + i) / 512) []).set ((p0 + i) / 8 % 64) (tnB (((chk (tnL (frmL ((j : Int) + 1) (T.getD j [])) p0 B i)).getD ((p0 + i) / 512) []).getD ((p0 + i) / 8 % 64) 0) ((p0 + i) % 8))) :
    s.wrE (((FrS 0 (T.take j)).length + (p0 + i) / 512 : Nat) : Int) b = 0 ∧ Hs (s.wr (((FrS 0 (T.take j)).length + (p0 + i) / 512 : Nat) : Int) b) T j p0 B (i + 1) := by
  have hfl : (tnL (frmL ((j : Int) + 1) (T.getD j [])) p0 B i).length = 20 + (T.getD j []).length := by rw [tnL_len, frmL_len]
  have hy : (p0 + i) / 8 < (tnL (frmL ((j : Int) + 1) (T.getD j [])) p0 B i).length := by omega
  have hq : (p0 + i) / 8 / 64 = (p0 + i) / 512 := by omega
  obtain ⟨n1, n2⟩ := h.nth ((p0 + i) / 512) (by rw [← hq]; exact ns_lt hi)
  obtain ⟨w1, w2, w3, w4, w5, w6⟩ := now_wr h.off h.arm n1 hl
  obtain ⟨z, hz⟩ := h.now
  refine ⟨w1, w3, w4, by rw [w5]; exact h.fl, by rw [w6]; have := h.ol; omega, z, ?_⟩
  rw [w2, hz, tnL_step _ _ _ _ hb, chk_set _ _ _ hy, List.set_append_right _ _ (by omega), Nat.add_sub_cancel_left, List.set_append_left _ _ (by rw [chk_len, hfl, ← hq]; exact ns_lt hi), hq, he]
  have hcb := chk_byte _ _ hy
  rw [hq] at hcb
  rw [hcb]
set_option maxRecDepth 100000 in
/-- when it is synced -/
theorem Hs.synced {s : DS} {T : List (List Int)} {j p0 B i : Nat} (h : Hs s T j p0 B i) : s.sy.off = false ∧ s.sy.armed = false ∧ s.sy.O = [] ∧ s.sy.F = s.now ∧ s.sy.F.length = 300 := by
  rcases sy_on h.off with ⟨_, e2, _⟩ | ⟨_, _, e3⟩
  · rw [e2]; exact ⟨h.off, h.arm, rfl, rfl, by show (app s.F s.O).length = 300; rw [app_len]; exact h.fl⟩
  · rw [last_un h.arm] at e3; cases e3
set_option maxRecDepth 100000 in
theorem halt_none {N T : List (List Int)} {j p0 B i z : Nat} (hN : N = FrS 0 (T.take j) ++ (chk (tnL (frmL ((j : Int) + 1) (T.getD j [])) p0 B i) ++ (FrS (j + 1) (T.drop (j + 1)) ++ Zs z))) (hT : TOk T) (hj : j < T.length) (hf : tnT B i = false) : N = FrS 0 T ++ Zs z := by
  rw [hN, tnL_none _ _ _ _ hf, FrS_at T j hj, List.append_assoc, List.append_assoc]
set_option maxRecDepth 100000 in
theorem halt_bad {N T : List (List Int)} {j p0 B i z : Nat} (hN : N = FrS 0 (T.take j) ++ (chk (tnL (frmL ((j : Int) + 1) (T.getD j [])) p0 B i) ++ (FrS (j + 1) (T.drop (j + 1)) ++ Zs z))) (hsx : Sxl N) (hn : N.length ≤ 4096) (hT : TOk T) (hj : j < T.length) (hpi : p0 + i ≤ 8 * (20 + (T.getD j []).length)) (h32 : i ≤ 32) (ht : tnT B i = true)
    (hb : (chk (tnL (frmL ((j : Int) + 1) (T.getD j [])) p0 B i)).getD 0 [] ≠ s0) : rdF N = none := by
  have htj : (T.getD j []).length ≤ 16384 ∧ Byt (T.getD j []) := by
    rw [List.getD_eq_getElem?_getD, List.getElem?_eq_getElem hj]; exact hT _ (List.getElem_mem hj)
  have hl1 : (T.take j).length = j := by rw [List.length_take]; omega
  have hge := FrS_len_ge 0 (T.take j)
  have hcl : (chk (tnL (frmL ((j : Int) + 1) (T.getD j [])) p0 B i)).length = ns (20 + (T.getD j []).length) := by rw [chk_len, tnL_len, frmL_len]
  have hpos := ns_pos (T.getD j []).length
  have hNl : N.length = (FrS 0 (T.take j)).length + (ns (20 + (T.getD j []).length) + (FrS (j + 1) (T.drop (j + 1)) ++ Zs z).length) := by rw [hN, List.length_append, List.length_append, hcl]
  have hdr : N.drop (FrS 0 (T.take j)).length = chk (tnL (frmL ((j : Int) + 1) (T.getD j [])) p0 B i) ++ (FrS (j + 1) (T.drop (j + 1)) ++ Zs z) := by rw [hN, List.drop_left]
  unfold rdF
  rw [rfr_skip N _ hsx (T.take j) (N.length + 1) 0 [] hN (by omega) (fun t ht' => hT t (List.mem_of_mem_take ht')) (by simp; omega)]
  refine rfr_bad (by show N.length < N.length + 1 - (T.take j).length + (0 + (FrS 0 (T.take j)).length); omega) (by show 0 + (FrS 0 (T.take j)).length < _; omega) ?_ (fun hh => ?_)
  · show N.getD (0 + (FrS 0 (T.take j)).length) [] ≠ s0
    rw [Nat.zero_add, hN, List.getD_eq_getElem?_getD, List.getElem?_append_right (Nat.le_refl _), Nat.sub_self, List.getElem?_append_left (by omega), ← List.getD_eq_getElem?_getD]
    exact hb
  · have h1 := hh.1
    have h2 : N.drop (0 + (FrS ([] : List (List Int)).length (T.take j)).length) = N.drop (FrS 0 (T.take j)).length := by rw [Nat.zero_add]; rfl
    rw [h2, hdr, flat_append, flat_chk, List.append_assoc] at h1
    exact tn_bad ((j : Int) + 1) (T.getD j []) _ p0 B i (by omega) (by omega) htj.1 htj.2 hpi h32 ht h1
set_option maxRecDepth 100000 in
theorem halt_blank {N T : List (List Int)} {j p0 B i z : Nat} (hN : N = FrS 0 (T.take j) ++ (chk (tnL (frmL ((j : Int) + 1) (T.getD j [])) p0 B i) ++ (FrS (j + 1) (T.drop (j + 1)) ++ Zs z)))
    (hb : (chk (tnL (frmL ((j : Int) + 1) (T.getD j [])) p0 B i)).getD 0 [] = s0) : Lay (T.take j) N := by
  have hcl : (chk (tnL (frmL ((j : Int) + 1) (T.getD j [])) p0 B i)).length = ns (20 + (T.getD j []).length) := by rw [chk_len, tnL_len, frmL_len]
  have hpos := ns_pos (T.getD j []).length
  refine ⟨_, hN, fun x hx => ?_⟩
  rw [List.getElem?_append_left (by omega)] at hx
  rw [List.getD_eq_getElem?_getD, hx] at hb
  exact hb
/-- where the frames begin, and how long they are -/
def frI (T : List (List Int)) : List Int := (List.range T.length).map fun i => ((FrS 0 (T.take i)).length : Int)
def szI (T : List (List Int)) : List Int := T.map fun t => (t.length : Int) + 20
set_option maxRecDepth 100000 in
theorem frI_len (T : List (List Int)) : (frI T).length = T.length := by simp [frI]
set_option maxRecDepth 100000 in
theorem szI_len (T : List (List Int)) : (szI T).length = T.length := by simp [szI]
set_option maxRecDepth 100000 in
theorem frI_snoc (T : List (List Int)) (t : List Int) : frI (T ++ [t]) = frI T ++ [((FrS 0 T).length : Int)] := by
  unfold frI
  rw [List.length_append, show T.length + [t].length = T.length + 1 from rfl, List.range_succ, List.map_append]
  congr 1
  · apply List.map_congr_left
    intro i hi
    have : i < T.length := by simpa using hi
    rw [List.take_append_of_le_length (by omega)]
  · show [((FrS 0 (List.take T.length (T ++ [t]))).length : Int)] = _
    rw [List.take_left]
set_option maxRecDepth 100000 in
theorem szI_snoc (T : List (List Int)) (t : List Int) : szI (T ++ [t]) = szI T ++ [(t.length : Int) + 20] := by simp [szI]
set_option maxRecDepth 100000 in
theorem frI_get (T : List (List Int)) (j : Nat) (hj : j < T.length) : (frI T)[j]? = some ((FrS 0 (T.take j)).length : Int) := by
  unfold frI; rw [List.getElem?_map, List.getElem?_range hj]; rfl
set_option maxRecDepth 100000 in
theorem szI_get (T : List (List Int)) (j : Nat) (hj : j < T.length) : (szI T)[j]? = some (((T.getD j []).length : Int) + 20) := by
  unfold szI; rw [List.getElem?_map, List.getD_eq_getElem?_getD, List.getElem?_eq_getElem hj]; rfl
def iv (l : List Int) : List Value := l.map (Value.int .i64)
set_option maxRecDepth 100000 in
theorem iv_len (l : List Int) : (iv l).length = l.length := by simp [iv]
set_option maxRecDepth 100000 in
theorem iv_snoc (l : List Int) (x : Int) : iv (l ++ [x]) = iv l ++ [.int .i64 x] := by simp [iv]
/-- two lists of numbers in memory -/
structure TwoI (w : World) (X : Nat → Prop) (v1 v2 : Value) (l1 l2 : List Int) : Prop where
  o1 : w.ownsRow 0 3 1 v1 l1.length (iv l1)
  o2 : w.ownsRow 0 3 1 v2 l2.length (iv l2)
  b1 : ∀ k, v1.ownBlock = some k → X k
  b2 : ∀ k, v2.ownBlock = some k → X k
  ne : ∀ k, v1.ownBlock = some k → v2.ownBlock ≠ some k
set_option maxRecDepth 100000 in
theorem own_keep {w w' : World} {v : Value} {n : Nat} {xs : List Value} (h : w.ownsRow 0 3 1 v n xs) (hb : ∀ k, v.ownBlock = some k → w'.heap[k]? = w.heap[k]?) : w'.ownsRow 0 3 1 v n xs := by
  refine ⟨h.1, ?_⟩
  rcases h.2 with h2 | ⟨g', cap', cur, hv, hg, hh, r⟩
  · exact .inl h2
  · exact .inr ⟨g', cap', cur, hv, hg, (hb g' (by rw [hv]; rfl)).trans hh, r⟩
set_option maxRecDepth 100000 in
theorem TwoI.symm {w : World} {X : Nat → Prop} {v1 v2 : Value} {l1 l2 : List Int} (h : TwoI w X v1 v2 l1 l2) : TwoI w X v2 v1 l2 l1 := ⟨h.o2, h.o1, h.b2, h.b1, fun k hk e => h.ne k e hk⟩
set_option maxRecDepth 100000 in
theorem TwoI.keep {w w' : World} {X X2 : Nat → Prop} {v1 v2 : Value} {l1 l2 : List Int} (h : TwoI w X v1 v2 l1 l2) (hb : ∀ k, X k → w'.heap[k]? = w.heap[k]?) (hs : ∀ k, X k → X2 k) : TwoI w' X2 v1 v2 l1 l2 :=
  ⟨own_keep h.o1 (fun k hk => hb k (h.b1 k hk)), own_keep h.o2 (fun k hk => hb k (h.b2 k hk)), fun k hk => hs k (h.b1 k hk), fun k hk => hs k (h.b2 k hk), h.ne⟩
set_option maxRecDepth 100000 in
theorem TwoI.below {w w' : World} {X : Nat → Prop} {v1 v2 : Value} {l1 l2 : List Int} (h : TwoI w X v1 v2 l1 l2) (hb : Below w.heap.size w w') : TwoI w' X v1 v2 l1 l2 :=
  ⟨own_keep h.o1 (fun k hk => hb.block k (h.o1.lt k hk).2), own_keep h.o2 (fun k hk => hb.block k (h.o2.lt k hk).2), h.b1, h.b2, h.ne⟩
set_option maxRecDepth 100000 in
theorem TwoI.app {w w' : World} {X : Nat → Prop} {v1 v2 : Value} {l1 l2 : List Int} {x : Int} {g cap q : Nat} (h : TwoI w X v1 v2 l1 l2) (hq : q = l1.length) (ho : w'.ownsRow 0 3 1 (.slice (some ⟨g, 0, none⟩) (q + 1) cap) (q + 1) (iv l1 ++ [.int .i64 x])) (hg : w.grownBy w' v1.ownBlock) (hl : v1.ownBlock = some g ∨ g = w.heap.size) :
    TwoI w' (fun k => X k ∨ k = g) (.slice (some ⟨g, 0, none⟩) (q + 1) cap) v2 (l1 ++ [x]) l2 ∧ (X g ∨ w.heap.size ≤ g) ∧ g < w'.heap.size ∧ Kept X w w' := by
  subst hq
  refine ⟨⟨by rw [List.length_append, iv_snoc]; exact ho, own_keep h.o2 (fun k hk => hg.block k (h.o2.lt k hk).2 (fun e => h.ne k e.symm hk)), fun k hk => ?_, fun k hk => .inl (h.b2 k hk), fun k hk e => ?_⟩, ?_, (ho.lt g rfl).2, hg.os, hg.tape, hg.output, hg.size, fun k hk hno => hg.block k hk (fun e => hno (h.b1 k e.symm))⟩
  · have e : g = k := by simpa [Value.ownBlock] using hk
    exact .inr e.symm
  · have e2 : g = k := by simpa [Value.ownBlock] using hk
    rcases hl with h1 | h1
    · exact h.ne g h1 (by rw [e2]; exact e)
    · have := (h.o2.lt k e).2; omega
  · rcases hl with h1 | h1
    · exact .inl (h.b1 g h1)
    · exact .inr (Nat.le_of_eq h1.symm)
/-- .. as they grow, seen from a world ahead -/
def TI (wl wk : World) (X0 : Nat → Prop) (v1 v2 : Value) (l1 l2 : List Int) : Prop := ∃ X1, TwoI wk X1 v1 v2 l1 l2 ∧ (∀ k, X1 k → X0 k ∨ (wl.heap.size ≤ k ∧ k < wk.heap.size)) ∧ Kept X0 wl wk
set_option maxRecDepth 100000 in
theorem TI.below {wl w w' : World} {X0 : Nat → Prop} {v1 v2 : Value} {l1 l2 : List Int} (h : TI wl w X0 v1 v2 l1 l2) (hb : Below w.heap.size w w') : TI wl w' X0 v1 v2 l1 l2 := by
  obtain ⟨X1, h1, h2, h3⟩ := h
  have := hb.size
  refine ⟨X1, h1.below hb, fun k hk => ?_, h3.below hb⟩
  rcases h2 k hk with h | h
  · exact .inl h
  · right; omega
set_option maxRecDepth 100000 in
theorem TI.symm {wl w : World} {X0 : Nat → Prop} {v1 v2 : Value} {l1 l2 : List Int} (h : TI wl w X0 v1 v2 l1 l2) : TI wl w X0 v2 v1 l2 l1 := by
  obtain ⟨X1, h1, h2, h3⟩ := h
  exact ⟨X1, h1.symm, h2, h3⟩
set_option maxRecDepth 100000 in
theorem TI.app {wl w w' : World} {X0 : Nat → Prop} {v1 v2 : Value} {l1 l2 : List Int} {x : Int} {g cap q : Nat} (h : TI wl w X0 v1 v2 l1 l2) (hq : q = l1.length) (ho : w'.ownsRow 0 3 1 (.slice (some ⟨g, 0, none⟩) (q + 1) cap) (q + 1) (iv l1 ++ [.int .i64 x])) (hg : w.grownBy w' v1.ownBlock) (hl : v1.ownBlock = some g ∨ g = w.heap.size) :
    TI wl w' X0 (.slice (some ⟨g, 0, none⟩) (q + 1) cap) v2 (l1 ++ [x]) l2 := by
  obtain ⟨X1, h1, h2, h3⟩ := h
  obtain ⟨k1, k2, k3, k4⟩ := h1.app hq ho hg hl
  have hs := hg.size
  have hs3 := h3.size
  refine ⟨_, k1, fun k hk => ?_, h3.trans k4 (fun k hk => ?_)⟩
  · rcases hk with hk | hk
    · rcases h2 k hk with h | h
      · exact .inl h
      · right; omega
    · rw [hk]
      rcases k2 with h | h
      · rcases h2 g h with h5 | h5
        · exact .inl h5
        · right; omega
      · right; omega
  · rcases h2 k hk with h | h
    · exact .inl h
    · exact .inr h.1
set_option maxRecDepth 100000 in
theorem TI.o1 {wl w : World} {X0 : Nat → Prop} {v1 v2 : Value} {l1 l2 : List Int} (h : TI wl w X0 v1 v2 l1 l2) : w.ownsRow 0 3 1 v1 l1.length (iv l1) := by obtain ⟨X1, h1, _⟩ := h; exact h1.o1
set_option maxRecDepth 100000 in
theorem dl_read (w wr : World) (X : Nat → Prop) (gd gl : Nat) (s : DS) (L : LS) (x : Int) (h : DL w wr X gd gl s L) :
    Calls Try.prog 37 #[.pointer (some ⟨gd, 0, none⟩), .int .i64 x] wr fun e w' => ∃ v, e = .returned (.tuple #[v, .int .i64 (s.rdE x)]) ∧ w'.ownsRow wr.heap.size 5 1 v (s.rdL x).length (bv (s.rdL x)) ∧ Below wr.heap.size wr w' := by
  obtain ⟨ownD, ownL, h1, h2, _⟩ := h.ex
  exact read_any gd ownD s x wr h1
set_option maxRecDepth 100000 in
theorem dl_did {w wr w1 : World} {X : Nat → Prop} {gd gl : Nat} {s s' : DS} {L : LS} {ownD ownL own' : Nat → Prop} (h1 : Dsk wr gd ownD s) (h2 : Lg wr gl ownL gd L) (h3 : ∀ k, ownD k → w.heap.size ≤ k ∧ ¬ X k) (h4 : ∀ k, ownL k → w.heap.size ≤ k ∧ ¬ X k ∧ ¬ ownD k) (hlow : Below w.heap.size w wr) (hx : ∀ k, X k → k < wr.heap.size) (hD : Dsk w1 gd own' s') (hd : Did ownD wr w1 own') : DL w w1 X gd gl s' L ∧ XK X wr w1 := by
  obtain ⟨hdd, hxk⟩ := DD.did h1 h3 hlow hx hD hd
  have hsl := hlow.size
  refine ⟨⟨⟨own', ownL, hD, h2.kept hd.kept (fun k hk => (h4 k hk).2.2), fun k hk => ?_, fun k hk => ⟨(h4 k hk).1, (h4 k hk).2.1, fun ho => ?_⟩⟩, hdd.low, hdd.xlt⟩, hxk⟩
  · rcases hd.new k hk with h5 | h5
    · exact h3 k h5
    · exact ⟨by omega, fun hX => by have := hx k hX; omega⟩
  · rcases hd.new k ho with h5 | h5
    · exact (h4 k hk).2.2 h5
    · have := h2.lt k hk; omega
set_option maxRecDepth 100000 in
theorem dl_write (w wr w3 : World) (X : Nat → Prop) (gd gl : Nat) (s : DS) (L : LS) (x : Int) (a : Option Addr) (len cap : Nat) (b : List Int) (h : DL w wr X gd gl s L) (hb : Below wr.heap.size wr w3) (hbt : Bts w3 a len cap b) (hfar : 0 < len → ∀ p, a = some p → wr.heap.size ≤ p.block) (hO : s.O.length ≤ 1000000) :
    Calls Try.prog 20 #[.pointer (some ⟨gd, 0, none⟩), .int .i64 x, .slice a len cap] w3 fun e w' => e = .returned (.int .i64 (s.wrE x b)) ∧ DL w w' X gd gl (s.wr x b) L ∧ XK X wr w' := by
  obtain ⟨ownD, ownL, h1, h2, h3, h4⟩ := h.ex
  refine (write_any gd ownD s x a len cap b w3 (h1.below hb) hbt (fun hp p e ho => by have := h1.lt _ ho; have := hfar hp p e; omega) hO).mono ?_
  rintro e w' ⟨rfl, own', hD, hdid⟩
  obtain ⟨k1, k2⟩ := dl_did (h1.below hb) (h2.below hb) h3 h4 (bstep h.low hb) (fun k hk => Nat.lt_of_lt_of_le (h.xlt k hk) hb.size) hD hdid
  exact ⟨rfl, k1, (xk_below h.xlt hb).trans k2⟩
set_option maxRecDepth 100000 in
theorem dl_sync (w wr : World) (X : Nat → Prop) (gd gl : Nat) (s : DS) (L : LS) (h : DL w wr X gd gl s L) (hO : s.O.length ≤ 1000000) :
    Calls Try.prog 23 #[.pointer (some ⟨gd, 0, none⟩)] wr fun e w' => e = .returned (.int .i64 s.syE) ∧ DL w w' X gd gl s.sy L ∧ XK X wr w' := by
  obtain ⟨ownD, ownL, h1, h2, h3, h4⟩ := h.ex
  refine (sync_any gd ownD s wr h1 hO).mono ?_
  rintro e w' ⟨rfl, hD, hK⟩
  exact ⟨rfl, dl_did h1 h2 h3 h4 h.low h.xlt hD (Did.same hK)⟩
set_option maxRecDepth 100000 in
/-- Open that does not open: nothing is written -/
theorem dd_open_sum (w wr : World) (X : Nat → Prop) (gd : Nat) (s : DS) (h : DD w wr X gd s) (hoff : s.off = false) (hr : rdF s.now = none) :
    Calls Try.prog 12 #[.pointer (some ⟨gd, 0, none⟩)] wr fun e w' => e = .returned (.tuple #[.pointer none, .int .i64 13]) ∧ Below wr.heap.size wr w' := by
  obtain ⟨ownD, h1, _⟩ := h.ex
  exact wopen_sum gd ownD s wr h1 hoff hr
set_option maxRecDepth 100000 in
/-- what the law finds when it opens the disk again -/
theorem Hs.final {s : DS} {T : List (List Int)} {j p0 B i : Nat} (h : Hs s T j p0 B i) (hok : s.Ok) (hT : TOk T) (hj : j < T.length) (hpi : p0 + i ≤ 8 * (20 + (T.getD j []).length)) (h32 : i ≤ 32) (x : Int) :
    let s6 := s.sy.ar x
    s6.off = false ∧ s6.O = [] ∧ s6.F.length = 300 ∧ (tnT B i = false → Rest s6 T) ∧
    (tnT B i = true → (chk (tnL (frmL ((j : Int) + 1) (T.getD j [])) p0 B i)).getD 0 [] ≠ s0 → rdF s6.now = none) ∧
    ((chk (tnL (frmL ((j : Int) + 1) (T.getD j [])) p0 B i)).getD 0 [] = s0 → TOk (T.take j) ∧ Lay (T.take j) s6.F) := by
  obtain ⟨a1, a2, a3, a4, a5⟩ := h.synced
  obtain ⟨b1, b2, b3⟩ := ar_same s.sy x
  obtain ⟨z, hz⟩ := h.now
  have hF : (s.sy.ar x).F = s.now := by rw [b1, a4]
  have hO : (s.sy.ar x).O = [] := by rw [b2, a3]
  have hnow : (s.sy.ar x).now = s.now := by unfold DS.now; rw [hO]; show (s.sy.ar x).F = _; rw [hF]; rfl
  have hoff : (s.sy.ar x).off = false := by rw [b3, a1]
  refine ⟨hoff, hO, by rw [b1]; exact a5, fun hf => ⟨hoff, hO, hT, z, ?_⟩, fun ht hb => ?_, fun hb => ⟨fun t ht => hT t (List.mem_of_mem_take ht), ?_⟩⟩
  · rw [hF]; exact halt_none hz hT hj hf
  · rw [hnow]
    exact halt_bad hz (now_sx hok) (by rw [now_len]; exact hok.n2) hT hj hpi h32 ht hb
  · rw [hF]; exact halt_blank hz hb
set_option maxRecDepth 100000 in
theorem Hs.first {s : DS} {T : List (List Int)} {j p0 B i : Nat} (h : Hs s T j p0 B i) (hok : s.Ok) : s.sy.rdE ((FrS 0 (T.take j)).length : Int) = 0 ∧ s.sy.rdL ((FrS 0 (T.take j)).length : Int) = (chk (tnL (frmL ((j : Int) + 1) (T.getD j [])) p0 B i)).getD 0 [] ∧ (s.sy.rdL ((FrS 0 (T.take j)).length : Int)).length = 64 ∧ Byt (s.sy.rdL ((FrS 0 (T.take j)).length : Int)) := by
  obtain ⟨a1, a2, a3, a4, a5⟩ := h.synced
  obtain ⟨n1, n2⟩ := h.nth 0 (ns_pos _)
  rw [Nat.add_zero] at n1 n2
  have hn : (FrS 0 (T.take j)).length < s.sy.F.length := by rw [a5, ← h.fl]; exact n1
  obtain ⟨r1, r2⟩ := rd_at a1 _ hn
  have hnow : s.sy.now = s.now := by unfold DS.now; rw [a3]; show s.sy.F = _; rw [a4]; rfl
  rw [hnow] at r2
  have hsx := (now_sx hok).getD _ (by rw [now_len]; exact n1)
  rw [r2]
  exact ⟨r1, n2, hsx.1, hsx.2⟩
set_option maxRecDepth 100000 in
theorem Hs.sec {s : DS} {T : List (List Int)} {j p0 B i : Nat} (h : Hs s T j p0 B i) (hok : s.Ok) (c : Nat) (hc : c < ns (20 + (T.getD j []).length)) : s.rdE (((FrS 0 (T.take j)).length + c : Nat) : Int) = 0 ∧ s.rdL (((FrS 0 (T.take j)).length + c : Nat) : Int) = (chk (tnL (frmL ((j : Int) + 1) (T.getD j [])) p0 B i)).getD c [] ∧ ((chk (tnL (frmL ((j : Int) + 1) (T.getD j [])) p0 B i)).getD c []).length = 64 ∧ Byt ((chk (tnL (frmL ((j : Int) + 1) (T.getD j [])) p0 B i)).getD c []) := by
  obtain ⟨n1, n2⟩ := h.nth c hc
  obtain ⟨r1, r2⟩ := rd_at h.off _ n1
  have hsx := (now_sx hok).getD _ (by rw [now_len]; exact n1)
  rw [← n2]
  exact ⟨r1, r2, hsx.1, hsx.2⟩
set_option maxRecDepth 100000 in
theorem int_info : (Try.prog.info? 3).map (fun i => (i.zero, i.size, i.bytes)) = some (some (.int .i64 0), 1, 8) := by kernel_rfl
set_option maxRecDepth 100000 in
theorem TwoI.cell {w : World} {X : Nat → Prop} {v1 v2 : Value} {l1 l2 : List Int} (h : TwoI w X v1 v2 l1 l2) (j : Nat) (hj : j < l1.length) : ∃ g cap, v1 = .slice (some ⟨g, 0, none⟩) l1.length cap ∧ l1.length ≤ cap ∧ cap ≤ maxLen ∧ w.cell? ⟨g, j, none⟩ = (iv l1)[j]? ∧ X g := by
  rcases h.o1.2 with ⟨_, h0⟩ | ⟨g, cap, cur, hv, hg, hh, hnc, hcm, _⟩
  · omega
  · refine ⟨g, cap, hv, hnc, hcm, ?_, h.b1 g (by rw [hv]; rfl)⟩
    have ho := h.o1
    rw [hv] at ho
    exact ho.cellAt j (by omega)
end Go.Proofs.Ytigaciflbgbolaa
