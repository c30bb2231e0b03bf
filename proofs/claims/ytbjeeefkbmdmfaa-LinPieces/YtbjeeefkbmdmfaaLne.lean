/- A map that is a set: its keys, each with the same element. No walk. A set of places as the bits of a number. No walk. The frames of a search that goes by a stack, against the search. No walk. One set within another: the bits. No walk. -/
import Derived.Test.YtbjeeefkbmdmfaaKeep
import Derived.MapKept
import Derived.Maps.Keyed
import Derived.Laws.Bits64b
import Derived.Test.YtbjeeefkbmdmfaaLnc
import Derived.Test.YtbjeeefkbmdmfaaLnb
import Derived.Laws.BitsAllLaws
namespace Go.Proofs.Ytbjeeefkbmdmfaa
open Go.RowKit Go.MapKept Go.Maps

/-- a map's block with other entries -/
def setK (w : World) (gm : Nat) (es : Array MapEntry) (clock : Nat) : World := { w with heap := w.heap.setIfInBounds gm (.map es clock) }
set_option maxRecDepth 100000 in
theorem setK_at {w : World} {gm : Nat} {o : Obj} (es : Array MapEntry) (clock : Nat) (h : w.heap[gm]? = some o) : (setK w gm es clock).heap[gm]? = some (.map es clock) := by
  have := (Array.getElem?_eq_some_iff.1 h).1
  simp [setK, this]
set_option maxRecDepth 100000 in
theorem setK_other (w : World) {gm k : Nat} (es : Array MapEntry) (clock : Nat) (h : k ≠ gm) : (setK w gm es clock).heap[k]? = w.heap[k]? := by simp [setK, Ne.symm h]
set_option maxRecDepth 100000 in
theorem setK_size (w : World) (gm : Nat) (es : Array MapEntry) (clock : Nat) : (setK w gm es clock).heap.size = w.heap.size := by simp [setK]
set_option maxRecDepth 100000 in
theorem setK_kept {own : Nat → Prop} {w0 w : World} {gm : Nat} (h : Kept own w0 w) (es : Array MapEntry) (clock : Nat) (hg : own gm ∨ w0.heap.size ≤ gm) : Kept own w0 (setK w gm es clock) :=
  ⟨h.os, h.tape, h.output, by rw [setK_size]; exact h.size, fun k hk hn => by
    have hne : k ≠ gm := by
      intro e
      rcases hg with h1 | h1
      · exact hn (by rw [e]; exact h1)
      · omega
    rw [setK_other w es clock hne]; exact h.block k hk hn⟩
/-- the keys of a map are these -/
structure Km (P : Program) (k : TypeId) (V : Value) (es : Array MapEntry) (clock : Nat) (L : List Value) : Prop where
  ks : es.toList.map (fun e => e.key) = L
  vs : ∀ e ∈ es.toList, e.val = V
  st : Stamped es clock
  kk : ∀ v ∈ L, ∃ l, keyOf P k v = some l
section
variable {P : Program} {k t e : TypeId} {V z : Value} {es : Array MapEntry} {clock b : Nat} {L : List Value} {w : World} {key : Value} {kl : Lit}
set_option maxRecDepth 100000 in
theorem Km.nil : Km P k V #[] 0 [] := ⟨rfl, (fun e h => by simp at h), stamped_empty 0, (fun v h => by cases h)⟩
set_option maxRecDepth 100000 in
theorem Km.reads (h : Km P k V es clock L) : ∀ x ∈ es.toList, ∃ l, keyOf P k x.key = some l := fun x hx => h.kk _ (by rw [← h.ks]; exact List.mem_map.2 ⟨x, hx, rfl⟩)
set_option maxRecDepth 100000 in
/-- 'm[k]', 'v, ok := m[k]' -/
theorem Km.look (K : Keyed P k) (ht : P.underlying t = some (.map k e)) (hz : (zeroValue e).run P w = .ok z w) (hb : w.heap[b]? = some (.map es clock)) (h : Km P k V es clock L) (hkey : keyOf P k key = some kl) (c : Bool) :
    (key ∈ L ∧ (Instr.lookup t (.map (some b)) key c).run P w = .ok (if c then .tuple #[V, .bool true] else V) w) ∨
    (¬ key ∈ L ∧ (Instr.lookup t (.map (some b)) key c).run P w = .ok (if c then .tuple #[z, .bool false] else z) w) := by
  rcases K.find w hkey es.toList h.reads with ⟨h1, h2⟩ | ⟨j, e0, h1, h2, h3⟩
  · refine .inr ⟨fun hm => ?_, by simp [Instr.lookup, run_underlying ht, MapKept.run_getObj_map hb, K.check w _ hkey, h1, hz, Result.andThen]⟩
    rw [← h.ks] at hm
    obtain ⟨x, hx, ex⟩ := List.mem_map.1 hm
    exact h2 x hx ex
  · have hm := List.mem_of_getElem? h2
    have hv := h.vs _ hm
    refine .inl ⟨by rw [← h.ks, ← h3]; exact List.mem_map.2 ⟨e0, hm, rfl⟩, ?_⟩
    rw [hv] at h1
    simp [Instr.lookup, run_underlying ht, MapKept.run_getObj_map hb, K.check w _ hkey, h1, Result.andThen]
set_option maxRecDepth 100000 in
/-- 'm[k] = v' -/
theorem Km.put (K : Keyed P k) (ht : P.underlying t = some (.map k e)) (hb : w.heap[b]? = some (.map es clock)) (h : Km P k V es clock L) (hkey : keyOf P k key = some kl) :
    ∃ es' clock', (Instr.mapUpdate t (.map (some b)) key V).run P w = .ok () (setK w b es' clock') ∧ ((key ∈ L ∧ Km P k V es' clock' L) ∨ (¬ key ∈ L ∧ Km P k V es' clock' (L ++ [key]))) := by
  rcases K.find w hkey es.toList h.reads with ⟨h1, h2⟩ | ⟨j, e0, h1, h2, h3⟩
  · refine ⟨es.push ⟨key, V, clock⟩, clock + 1, ?_, .inr ⟨fun hm => ?_, ⟨?_, ?_, stamped_push h.st h2, ?_⟩⟩⟩
    · simp [Instr.mapUpdate, run_underlying ht, MapKept.run_getObj_map hb, K.check w false hkey, h1, MapKept.run_setObj_map _ hb, Result.andThen, setK]
    · rw [← h.ks] at hm
      obtain ⟨x, hx, ex⟩ := List.mem_map.1 hm
      exact h2 x hx ex
    · rw [Array.toList_push, List.map_append, h.ks]; rfl
    · intro x hx
      simp only [Array.toList_push, List.mem_append, List.mem_singleton] at hx
      rcases hx with hx | rfl
      · exact h.vs x hx
      · rfl
    · intro v hv
      rcases List.mem_append.1 hv with hv | hv
      · exact h.kk v hv
      · simp at hv; subst hv; exact ⟨kl, hkey⟩
  · have hj : es[j]? = some e0 := by simpa using h2
    have hkeyf : ∀ e', es[j]? = some e' → ({ e' with key := key, val := V } : MapEntry).key = e'.key := fun e' he' => by rw [hj] at he'; cases he'; exact h3.symm
    have hm := List.mem_of_getElem? h2
    have hml : key ∈ L := by rw [← h.ks, ← h3]; exact List.mem_map.2 ⟨e0, hm, rfl⟩
    have hlist : (es.modify j (fun e' => { e' with key := key, val := V })).toList = es.toList := by
      rw [Array.toList_modify]
      refine List.ext_getElem? fun i => ?_
      rw [List.getElem?_modify]
      by_cases e : j = i
      · subst e
        rw [h2]
        have hv := h.vs _ hm
        obtain ⟨k1, v1, b1⟩ := e0
        simp only at h3 hv
        subst h3 hv
        simp
      · simp [e]
    refine ⟨es.modify j (fun e' => { e' with key := key, val := V }), clock, ?_, .inl ⟨hml, ⟨by rw [hlist]; exact h.ks, by rw [hlist]; exact h.vs, stamped_modify h.st _ _ (fun _ _ => rfl) (fun e' _ he' => hkeyf e' he'), h.kk⟩⟩⟩
    simp [Instr.mapUpdate, run_underlying ht, MapKept.run_getObj_map hb, K.check w false hkey, h1, hj, h3, K.stays w hkey, MapKept.run_setObj_map _ hb, Result.andThen, setK]
set_option maxRecDepth 100000 in
/-- 'clear(m)' -/
theorem km_clear {ty : TypeId} (ht : P.underlying t = some (.map k e)) (hb : w.heap[b]? = some (.map es clock)) : ∃ clock', (Builtin.clear_ #[t] ty #[.map (some b)]).run P w = .ok (.tuple #[]) (setK w b #[] clock') ∧ Km P k V #[] clock' [] := by
  refine ⟨clock, ?_, ⟨rfl, (fun e h => by simp at h), stamped_empty _, (fun v h => by cases h)⟩⟩
  simp [Builtin.clear_, run_underlying ht, MapKept.run_getObj_map hb, MapKept.run_setObj_map _ hb, Result.andThen, setK]
end
end Go.Proofs.Ytbjeeefkbmdmfaa
namespace Go.Proofs.Ytbjeeefkbmdmfaa
open Go.RowKit
set_option linter.unusedVariables false

/-- which places are in -/
def bsI (n x : Nat) : List Bool := (List.range n).map x.testBit
set_option maxRecDepth 100000 in
theorem bs_len (n x : Nat) : (bsI n x).length = n := by simp [bsI]
set_option maxRecDepth 100000 in
theorem bs_get {n x i : Nat} (hi : i < n) : (bsI n x).getD i false = x.testBit i := by
  unfold bsI
  rw [List.getD_eq_getElem?_getD, List.getElem?_map, List.getElem?_range hi]; rfl
set_option maxRecDepth 100000 in
theorem bs_zero (n : Nat) : bsI n 0 = List.replicate n false := by
  refine List.ext_getElem? fun i => ?_
  unfold bsI
  rw [List.getElem?_map, List.getElem?_replicate]
  by_cases hi : i < n
  · rw [List.getElem?_range hi, if_pos hi]; simp
  · rw [List.getElem?_eq_none (by rw [List.length_range]; omega), if_neg hi]; rfl
set_option maxRecDepth 100000 in
theorem bs_set {n x i : Nat} (hi : i < n) : bsI n (x ||| 2 ^ i) = (bsI n x).set i true := by
  refine List.ext_getElem? fun j => ?_
  by_cases hj : j < n
  · by_cases e : i = j
    · subst e
      rw [List.getElem?_set_self (by rw [bs_len]; exact hi)]
      unfold bsI
      rw [List.getElem?_map, List.getElem?_range hj]
      simp [Nat.testBit_or, Nat.testBit_two_pow_self]
    · rw [List.getElem?_set_ne e]
      unfold bsI
      rw [List.getElem?_map, List.getElem?_map, List.getElem?_range hj]
      simp [Nat.testBit_or, Nat.testBit_two_pow_of_ne e]
  · rw [List.getElem?_eq_none (by rw [bs_len]; omega), List.getElem?_eq_none (by rw [List.length_set, bs_len]; omega)]
set_option maxRecDepth 100000 in
theorem bs_lt {n x i : Nat} (hx : x < 2 ^ n) (hi : i < n) : x ||| 2 ^ i < 2 ^ n := Nat.or_lt_two_pow hx (Nat.pow_lt_pow_right (by decide) hi)
set_option maxRecDepth 100000 in
theorem bs_inj {n x y : Nat} (hx : x < 2 ^ n) (hy : y < 2 ^ n) (h : bsI n x = bsI n y) : x = y := by
  refine Nat.eq_of_testBit_eq fun i => ?_
  by_cases hi : i < n
  · rw [← bs_get (x := x) hi, ← bs_get (x := y) hi, h]
  · rw [Nat.testBit_lt_two_pow (Nat.lt_of_lt_of_le hx (Nat.pow_le_pow_right (by decide) (by omega))), Nat.testBit_lt_two_pow (Nat.lt_of_lt_of_le hy (Nat.pow_le_pow_right (by decide) (by omega)))]
set_option maxRecDepth 100000 in
/-- 's >> i & 1' -/
theorem bit_at {x i : Nat} (hx : x < 18446744073709551616) : bits .and .u64 ((x : Int) / 2 ^ i) 1 = if x.testBit i = true then 1 else 0 := by
  have e : (x : Int) / 2 ^ i = ((x / 2 ^ i : Nat) : Int) := by push_cast; rfl
  have h := bits_and_u64_nat (x / 2 ^ i) 1 (Nat.lt_of_le_of_lt (Nat.div_le_self _ _) hx) (by decide)
  rw [e]
  rw [show (1 : Int) = ((1 : Nat) : Int) from rfl, h, Nat.and_one_is_mod]
  rw [Nat.testBit_eq_decide_div_mod_eq]
  by_cases h1 : x / 2 ^ i % 2 = 1
  · simp [h1]
  · have : x / 2 ^ i % 2 = 0 := by omega
    simp [this]
set_option maxRecDepth 100000 in
/-- 's & (1 << i)' -/
theorem bit_and {x i : Nat} (hx : x < 18446744073709551616) (hi : i < 64) : bits .and .u64 (x : Int) ((2 ^ i : Nat) : Int) = if x.testBit i = true then ((2 ^ i : Nat) : Int) else 0 := by
  have h := bits_and_u64_nat x (2 ^ i) hx (Nat.lt_of_lt_of_le (Nat.pow_lt_pow_right (by decide) hi) (by decide))
  rw [h]
  have h2 : x &&& 2 ^ i = if x.testBit i = true then 2 ^ i else 0 := by
    refine Nat.eq_of_testBit_eq fun j => ?_
    rw [Nat.testBit_and]
    by_cases e : i = j
    · subst e
      cases hb : x.testBit i <;> simp [Nat.testBit_two_pow_self]
    · rw [Nat.testBit_two_pow_of_ne e]
      cases hb : x.testBit i <;> simp [Nat.testBit_two_pow_of_ne e]
  rw [h2]
  split <;> rfl
set_option maxRecDepth 100000 in
/-- 's | 1 << i' -/
theorem bit_or {x i : Nat} (hx : x < 18446744073709551616) (hi : i < 64) : bits .or .u64 (x : Int) ((2 ^ i : Nat) : Int) = ((x ||| 2 ^ i : Nat) : Int) :=
  bits_or_u64_nat x (2 ^ i) hx (Nat.lt_of_lt_of_le (Nat.pow_lt_pow_right (by decide) hi) (by decide))
end Go.Proofs.Ytbjeeefkbmdmfaa
namespace Go.Proofs.Ytbjeeefkbmdmfaa
open Go.RowKit
set_option linter.unusedVariables false

/-- a frame: the set's bits, the cells, the place -/
structure Fr where
  x : Nat
  S : List Int
  k : Nat
/-- a position: the set's bits, the cells -/
abbrev Ps := Nat × List Int
def Fr.q (f : Fr) : Ps := (f.x, f.S)
def psO (n : Nat) (q : Ps) : Po := (bsI n q.1, q.2)
def Fr.p (n : Nat) (f : Fr) : Po := psO n f.q
/-- a position's numbers fit -/
structure PsK (n : Nat) (q : Ps) : Prop where
  lt : q.1 < 2 ^ n
  four : q.2.length = 4
  v : ∀ y ∈ q.2, V64 y
set_option maxRecDepth 100000 in
theorem psO_inj {n : Nat} {a b : Ps} (ha : PsK n a) (hb : PsK n b) (h : psO n a = psO n b) : a = b := by
  obtain ⟨x, S⟩ := a
  obtain ⟨y, T⟩ := b
  unfold psO at h
  cases (Prod.mk.inj h).2
  have e : x = y := bs_inj ha.lt hb.lt (Prod.mk.inj h).1
  rw [e]
set_option maxRecDepth 100000 in
theorem psO_mem {n : Nat} {q : Ps} {M : List Ps} (hq : PsK n q) (hM : ∀ y ∈ M, PsK n y) : psO n q ∈ M.map (psO n) ↔ q ∈ M := by
  rw [List.mem_map]
  constructor
  · rintro ⟨y, hy, e⟩
    rw [← psO_inj (hM y hy) hq e]; exact hy
  · exact fun h => ⟨q, h, rfl⟩
set_option maxRecDepth 100000 in
theorem ps_zero (n : Nat) : psO n (0, Z4) = po0 n := by unfold psO po0; rw [bs_zero]
set_option maxRecDepth 100000 in
theorem psk_zero (n : Nat) : PsK n (0, Z4) := ⟨Nat.two_pow_pos n, rfl, fun y hy => by
  have : y = 0 := by simpa [Z4] using hy
  rw [this]; unfold V64; omega⟩
/-- those below, as they are gone on with: the top one first -/
def belF (n : Nat) (B : List Fr) : List (Po × Nat) := B.reverse.map fun f => (f.p n, f.k + 1)
def kB (n : Nat) (B : List Fr) (f : Fr) : List (Fm Po) := kOf n (B.map Fr.k) ((f.p n, f.k) :: belF n B)
set_option maxRecDepth 100000 in
theorem belF_len (n : Nat) (B : List Fr) : (belF n B).length = B.length := by simp [belF]
set_option maxRecDepth 100000 in
theorem belF_snoc (n : Nat) (B : List Fr) (f : Fr) : belF n (B ++ [f]) = (f.p n, f.k + 1) :: belF n B := by simp [belF]
section
variable {s : Sr Po} {B : List Fr} {f : Fr}
set_option maxRecDepth 100000 in
/-- places that are not to be tried are passed by -/
theorem kB_skip : ∀ (d : Nat) (f : Fr), f.k + d ≤ s.n → (∀ i, f.k ≤ i → i < f.k + d → s.free (f.p s.n) i = false) → stl s (kB s.n B f) = stl s (kB s.n B ⟨f.x, f.S, f.k + d⟩)
  | 0, f, _, _ => rfl
  | d + 1, f, h, hf => by
    have h1 : stl s (kB s.n B f) = stl s (kB s.n B ⟨f.x, f.S, f.k + 1⟩) := stl_skip (show f.k < s.n by omega) (hf f.k (Nat.le_refl _) (by omega))
    rw [h1, kB_skip d ⟨f.x, f.S, f.k + 1⟩ (by show f.k + 1 + d ≤ s.n; omega) (fun i hi hj => hf i (by simp only at hi; omega) (by simp only at hj; omega))]
    show stl s (kB s.n B ⟨f.x, f.S, f.k + 1 + d⟩) = _
    rw [show f.k + 1 + d = f.k + (d + 1) by omega]
set_option maxRecDepth 100000 in
theorem kB_due {j : Nat} (hj : f.k ≤ j) (hn : j < s.n) (h : ∀ i, f.k ≤ i → i < j → s.free (f.p s.n) i = false) (hf : s.free (f.p s.n) j = true) : stl s (kB s.n B f) = kB s.n B ⟨f.x, f.S, j⟩ := by
  obtain ⟨d, rfl⟩ : ∃ d, j = f.k + d := ⟨j - f.k, by omega⟩
  rw [kB_skip d f (by omega) h]
  exact stl_here' hn hf
set_option maxRecDepth 100000 in
theorem kB_pass (hk : f.k ≤ s.n) (h : ∀ i, f.k ≤ i → i < s.n → s.free (f.p s.n) i = false) : stl s (kB s.n B f) = stl s (kOf s.n (B.map Fr.k) (belF s.n B)) := by
  have h1 := kB_skip (s := s) (B := B) (s.n - f.k) f (by omega) (fun i a b => h i a (by omega))
  rw [h1]
  exact stl_end (by show s.n ≤ f.k + (s.n - f.k); omega)
set_option maxRecDepth 100000 in
theorem kB_none (hk : f.k ≤ s.n) (h : ∀ i, f.k ≤ i → i < s.n → s.free (f.p s.n) i = false) : stl s (kB s.n [] f) = [] := kB_pass hk h
set_option maxRecDepth 100000 in
theorem kB_back {f' : Fr} (hk : f.k ≤ s.n) (h : ∀ i, f.k ≤ i → i < s.n → s.free (f.p s.n) i = false) : stl s (kB s.n (B ++ [f']) f) = stl s (kB s.n B ⟨f'.x, f'.S, f'.k + 1⟩) := by
  rw [kB_pass hk h, List.map_append, belF_snoc]
  show stl s (kOf s.n (B.map Fr.k ++ [f'.k]) ((f'.p s.n, f'.k + 1) :: belF s.n B)) = _
  rw [kOf_more [f'.k] _ (by simp [belF_len])]
  rfl
end
/-- where the search stands, when what is due is not looked for yet -/
def Pre (s : Sr Po) (X : Ss Po) (B : List Fr) (f : Fr) (M : List Ps) (t : Nat) : Prop :=
  (s.full (f.p s.n) = true → X = ⟨1, B.map Fr.k, [], M.map (psO s.n), t⟩) ∧ (s.full (f.p s.n) = false → X = mkS s (kB s.n B f) (M.map (psO s.n)) t)
/-- where it stands, a try due -/
def Run (s : Sr Po) (X : Ss Po) (B : List Fr) (f : Fr) (M : List Ps) (t : Nat) : Prop :=
  X = ⟨0, [], kB s.n B f, M.map (psO s.n), t⟩ ∧ f.k < s.n ∧ s.free (f.p s.n) f.k = true ∧ s.full (f.p s.n) = false
section
variable {s : Sr Po} {X : Ss Po} {B : List Fr} {f : Fr} {M : List Ps} {t : Nat}
set_option maxRecDepth 100000 in
theorem Pre.fits (h : Pre s X B f M t) (hf : s.full (f.p s.n) = true) : X.ov = 1 ∧ X.o = B.map Fr.k := by rw [h.1 hf]; exact ⟨rfl, rfl⟩
set_option maxRecDepth 100000 in
theorem Pre.due (h : Pre s X B f M t) (hf : s.full (f.p s.n) = false) {j : Nat} (hj : f.k ≤ j) (hn : j < s.n) (hs : ∀ i, f.k ≤ i → i < j → s.free (f.p s.n) i = false) (hfr : s.free (f.p s.n) j = true) : Run s X B ⟨f.x, f.S, j⟩ M t := by
  refine ⟨?_, hn, hfr, hf⟩
  rw [h.2 hf]
  have e := kB_due (B := B) hj hn hs hfr
  rw [mkS_some (by rw [e]; unfold kB; rw [kOf_cons]; simp), e]
set_option maxRecDepth 100000 in
theorem Pre.none (h : Pre s X [] f M t) (hf : s.full (f.p s.n) = false) (hk : f.k ≤ s.n) (hs : ∀ i, f.k ≤ i → i < s.n → s.free (f.p s.n) i = false) : X.ov = 2 ∧ X.o = [] := by
  rw [h.2 hf, mkS_none (kB_none hk hs)]; exact ⟨rfl, rfl⟩
set_option maxRecDepth 100000 in
theorem Pre.back {f' : Fr} (h : Pre s X (B ++ [f']) f M t) (hf : s.full (f.p s.n) = false) (hk : f.k ≤ s.n) (hs : ∀ i, f.k ≤ i → i < s.n → s.free (f.p s.n) i = false) (hf' : s.full (f'.p s.n) = false) : Pre s X B ⟨f'.x, f'.S, f'.k + 1⟩ M t := by
  refine ⟨fun k => ?_, fun _ => ?_⟩
  · have : s.full (f'.p s.n) = true := k
    rw [hf'] at this; cases this
  · rw [h.2 hf]
    unfold mkS
    rw [kB_back hk hs]
set_option maxRecDepth 100000 in
/-- one try -/
theorem Run.st (h : Run s X B f M t) : st1 s X = tr1 s (f.p s.n) (B.map Fr.k) f.k ((List.range s.n).drop (f.k + 1)) (kOf s.n (B.map Fr.k) (belF s.n B)) (M.map (psO s.n)) t := by
  rw [h.1]
  have e := st1_due (s := s) (x := ⟨0, [], kB s.n B f, M.map (psO s.n), t⟩) (o := B.map Fr.k) (p := f.p s.n) (k := f.k) (T := belF s.n B) rfl rfl h.2.1
  rw [e, List.take_of_length_le (by simp [belF_len])]
set_option maxRecDepth 100000 in
theorem Run.fuel (h : Run s X B f M t) (hr : s.tr (f.p s.n) f.k = .fuel) : (st1 s X).ov = 3 ∧ (st1 s X).o = [] := by
  rw [h.st, tr1_fuel hr]; exact ⟨rfl, rfl⟩
set_option maxRecDepth 100000 in
theorem Run.no (h : Run s X B f M t) (hr : s.tr (f.p s.n) f.k = .no) : Pre s (st1 s X) B ⟨f.x, f.S, f.k + 1⟩ M (t + 1) := by
  refine ⟨fun k => ?_, fun _ => ?_⟩
  · have := h.2.2.2.symm.trans k
    cases this
  · rw [h.st, tr1_no hr (List.take_of_length_le (by simp [belF_len])).symm]
    rfl
set_option maxRecDepth 100000 in
theorem Run.was {q : Ps} (h : Run s X B f M t) (hr : s.tr (f.p s.n) f.k = .yes (psO s.n q)) (hq : psO s.n q ∈ M.map (psO s.n)) : Pre s (st1 s X) B ⟨f.x, f.S, f.k + 1⟩ M (t + 1) := by
  refine ⟨fun k => ?_, fun _ => ?_⟩
  · have := h.2.2.2.symm.trans k
    cases this
  · rw [h.st, tr1_was hr hq (List.take_of_length_le (by simp [belF_len])).symm]
    rfl
set_option maxRecDepth 100000 in
theorem Run.on {q : Ps} (h : Run s X B f M t) (hr : s.tr (f.p s.n) f.k = .yes (psO s.n q)) (hq : ¬ psO s.n q ∈ M.map (psO s.n)) : Pre s (st1 s X) (B ++ [f]) ⟨q.1, q.2, 0⟩ (M ++ [q]) (t + 1) := by
  have e : (⟨q.1, q.2, 0⟩ : Fr).p s.n = psO s.n q := rfl
  refine ⟨fun k => ?_, fun k => ?_⟩
  · rw [e] at k
    rw [h.st, tr1_fits hr hq k, List.map_append, List.map_append]
    rfl
  · rw [e] at k
    rw [h.st, tr1_in hr hq k (by simp [belF_len]), List.map_append]
    unfold kB
    rw [List.map_append, belF_snoc]
    rfl
end
set_option maxRecDepth 100000 in
theorem pre_beg {s : Sr Po} {p0 : Po} (h : psO s.n (0, Z4) = p0) : Pre s (sqS s p0 0) [] ⟨0, Z4, 0⟩ [(0, Z4)] 0 := by
  have e : (⟨0, Z4, 0⟩ : Fr).p s.n = p0 := h
  refine ⟨fun k => ?_, fun k => ?_⟩
  · rw [e] at k
    show beg s p0 = _
    rw [beg_full k]
    simp [h]
  · rw [e] at k
    show beg s p0 = _
    rw [beg_open k]
    simp [h, kB, belF, e]
end Go.Proofs.Ytbjeeefkbmdmfaa
namespace Go.Proofs.Ytbjeeefkbmdmfaa
open Go.RowKit
set_option linter.unusedVariables false

set_option maxRecDepth 100000 in
theorem bit_not {y : Nat} (hy : y < 18446744073709551616) (i : Nat) (hi : i < 64) : (18446744073709551615 - y).testBit i = !y.testBit i := by
  have h := Nat.testBit_two_pow_sub_succ (x := y) (n := 64) hy i
  rw [show (2 : Nat) ^ 64 - (y + 1) = 18446744073709551615 - y by omega, decide_eq_true hi, Bool.true_and] at h
  exact h
/-- whether all of one set are in the other -/
def inB (n x y : Nat) : Bool := (List.range n).all fun i => !x.testBit i || y.testBit i
set_option maxRecDepth 100000 in
theorem inB_iff {n x y : Nat} : inB n x y = true ↔ ∀ i, i < n → x.testBit i = true → y.testBit i = true := by
  unfold inB
  simp only [List.all_eq_true, List.mem_range, Bool.or_eq_true, Bool.not_eq_true']
  constructor
  · intro h i hi hb
    exact (h i hi).resolve_left (by rw [hb]; decide)
  · intro h i hi
    cases hb : x.testBit i with
    | true => exact .inr (h i hi hb)
    | false => exact .inl rfl
set_option maxRecDepth 100000 in
theorem low64 {n x : Nat} (hn : n ≤ 64) (hx : x < 2 ^ n) : x < 18446744073709551616 := Nat.lt_of_lt_of_le hx (Nat.le_trans (Nat.pow_le_pow_right (by decide) hn) (by decide))
set_option maxRecDepth 100000 in
/-- 's &^ other == 0' -/
theorem bit_in {n x y : Nat} (hn : n ≤ 64) (hx : x < 2 ^ n) (hy : y < 18446744073709551616) : (bits .andNot .u64 (x : Int) (y : Int) == 0) = inB n x y := by
  rw [u64_andNot_nat x y (low64 hn hx) hy]
  cases hB : inB n x y with
  | true =>
    have h := inB_iff.1 hB
    have e : x &&& (18446744073709551615 - y) = 0 := by
      refine Nat.eq_of_testBit_eq fun i => ?_
      rw [Nat.testBit_and, Nat.zero_testBit]
      by_cases hi : i < n
      · rw [bit_not hy i (by omega)]
        cases hb : x.testBit i with
        | false => rfl
        | true => rw [h i hi hb]; rfl
      · rw [Nat.testBit_lt_two_pow (Nat.lt_of_lt_of_le hx (Nat.pow_le_pow_right (by decide) (by omega)))]; rfl
    rw [e]; rfl
  | false =>
    refine beq_false_of_ne fun e => ?_
    have h : inB n x y = true := inB_iff.2 fun i hi hb => by
      have e : x &&& (18446744073709551615 - y) = 0 := by omega
      have e2 : (x &&& (18446744073709551615 - y)).testBit i = false := by rw [e, Nat.zero_testBit]
      rw [Nat.testBit_and, bit_not hy i (by omega), hb] at e2
      simpa using e2
    rw [hB] at h; cases h
end Go.Proofs.Ytbjeeefkbmdmfaa
