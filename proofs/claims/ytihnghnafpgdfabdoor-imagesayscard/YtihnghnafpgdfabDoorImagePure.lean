/-
  A QUILT's ROWS: what they are, that they rise, and which rows are a quilt's.
-/
import Derived.Test.YtihnghnafpgdfabDoorImageTold
namespace Go.Proofs.YtihnghnafpgdfabDoor
open Go Go.RowKit Go.BigFrame
set_option linter.unusedVariables false
set_option linter.unusedSimpArgs false

/-- Four digits. -/
def t4 (n : Nat) : List UInt8 := [UInt8.ofNat (48 + n / 1000), UInt8.ofNat (48 + n / 100 % 10), UInt8.ofNat (48 + n / 10 % 10), UInt8.ofNat (48 + n % 10)]
theorem dec_small {n : Nat} (h : n < 10) : Lib.decDigits n = [UInt8.ofNat (48 + n)] := by rw [Lib.decDigits, dif_pos h]
theorem dec_big {n : Nat} (h : ¬ n < 10) : Lib.decDigits n = Lib.decDigits (n / 10) ++ [UInt8.ofNat (48 + n % 10)] := by rw [Lib.decDigits, dif_neg h]
theorem toldL_t4 {n : Nat} (h : n < 10000) : toldL (n : Int) = t4 n := by
  unfold toldL t4
  rw [Lib.itoa_nonneg]
  by_cases h1 : n < 10
  · rw [dec_small h1, repeat_one]
    have e1 : n / 1000 = 0 := by omega
    have e2 : n / 100 % 10 = 0 := by omega
    have e3 : n / 10 % 10 = 0 := by omega
    have e4 : n % 10 = n := by omega
    rw [e1, e2, e3, e4]
    rfl
  · by_cases h2 : n < 100
    · rw [dec_big h1, dec_small (show n / 10 < 10 by omega), repeat_one]
      have e1 : n / 1000 = 0 := by omega
      have e2 : n / 100 % 10 = 0 := by omega
      have e3 : n / 10 % 10 = n / 10 := by omega
      rw [e1, e2, e3]
      rfl
    · by_cases h3 : n < 1000
      · rw [dec_big h1, dec_big (show ¬ n / 10 < 10 by omega), dec_small (show n / 10 / 10 < 10 by omega), repeat_one]
        have e1 : n / 1000 = 0 := by omega
        have e2 : n / 100 % 10 = n / 10 / 10 := by omega
        rw [e1, e2]
        rfl
      · rw [dec_big h1, dec_big (show ¬ n / 10 < 10 by omega), dec_big (show ¬ n / 10 / 10 < 10 by omega), dec_small (show n / 10 / 10 / 10 < 10 by omega), repeat_one]
        have e1 : n / 1000 = n / 10 / 10 / 10 := by omega
        have e2 : n / 100 % 10 = n / 10 / 10 % 10 := by omega
        rw [e1, e2]
        rfl
theorem ofNat_val (d : Nat) (h : d < 10) : (UInt8.ofNat (48 + d)).toNat = 48 + d := by
  rw [UInt8.toNat_ofNat']
  omega
theorem digitVal_of (d : Nat) (h : d < 10) : Lib.digitVal (UInt8.ofNat (48 + d)) = some d := by
  unfold Lib.digitVal
  rw [ofNat_val d h, if_pos (by omega)]
  congr 1
  omega
theorem atoi_t4 {n : Nat} (h : n < 10000) : Lib.atoi (t4 n) = some (n : Int) := by
  have hne : ∀ d, d < 10 → (UInt8.ofNat (48 + d) == 45) = false ∧ (UInt8.ofNat (48 + d) == 43) = false := by
    intro d hd
    have hv := ofNat_val d hd
    constructor
    · rw [beq_eq_false_iff_ne]; intro e; rw [e] at hv; have : (45 : UInt8).toNat = 45 := rfl; omega
    · rw [beq_eq_false_iff_ne]; intro e; rw [e] at hv; have : (43 : UInt8).toNat = 43 := rfl; omega
  have hd : n / 1000 < 10 := by omega
  unfold t4 Lib.atoi
  simp only [(hne _ hd).1, (hne _ hd).2, Bool.false_eq_true, if_false]
  simp only [Lib.decNat, List.isEmpty_cons, Bool.false_eq_true, if_false, Lib.decFrom, digitVal_of _ hd, digitVal_of _ (show n / 100 % 10 < 10 by omega), digitVal_of _ (show n / 10 % 10 < 10 by omega), digitVal_of _ (show n % 10 < 10 by omega), Option.map_some, Option.some.injEq]
  omega

/-- The number that digits spell, as far as k. -/
def pre (v : List UInt8) : Nat → Nat
  | 0 => 0
  | k + 1 => 10 * pre v k + ((v[k]?.map UInt8.toNat).getD 48 - 48)
def digB (b : UInt8) : Bool := decide (48 ≤ b.toNat) && decide (b.toNat ≤ 57)
theorem pre_t4 {b0 b1 b2 b3 : UInt8} {r : List UInt8} (h0 : digB b0 = true) (h1 : digB b1 = true) (h2 : digB b2 = true) (h3 : digB b3 = true) :
    pre (b0 :: b1 :: b2 :: b3 :: r) 4 < 10000 ∧ t4 (pre (b0 :: b1 :: b2 :: b3 :: r) 4) = [b0, b1, b2, b3] := by
  simp only [digB, Bool.and_eq_true, decide_eq_true_eq] at h0 h1 h2 h3
  have e : pre (b0 :: b1 :: b2 :: b3 :: r) 4 = 1000 * (b0.toNat - 48) + 100 * (b1.toNat - 48) + 10 * (b2.toNat - 48) + (b3.toNat - 48) := by
    simp [pre]
    omega
  refine ⟨by omega, ?_⟩
  rw [e]
  have hb : ∀ b : UInt8, 48 ≤ b.toNat → b.toNat ≤ 57 → ∀ d, d = b.toNat - 48 → UInt8.ofNat (48 + d) = b := by
    intro b g1 g2 d hd
    subst hd
    rw [show 48 + (b.toNat - 48) = b.toNat by omega]
    exact UInt8.ofNat_toNat
  unfold t4
  rw [hb b0 h0.1 h0.2 _ (by omega), hb b1 h1.1 h1.2 _ (by omega), hb b2 h2.1 h2.2 _ (by omega), hb b3 h3.1 h3.2 _ (by omega)]

def kf : ByteArray := ⟨#[102]⟩
def kturn : ByteArray := ⟨#[116, 117, 114, 110]⟩
def frow (f : Fi) : Ch := ⟨kf ++ f.n, (⟨(toldL f.k).toArray⟩ : ByteArray) ++ f.t, false⟩
def trow (t : Int) : Ch := ⟨kturn, ⟨(toldL t).toArray⟩, false⟩
def rowsL (l : List Fi) (t : Int) : List Ch := l.map frow ++ [trow t]
theorem rowsL_length (l : List Fi) (t : Int) : (rowsL l t).length = l.length + 1 := by simp [rowsL]
theorem rowsL_f (l : List Fi) (t : Int) (i : Nat) (h : i < l.length) (h' : i < (rowsL l t).length) : (rowsL l t)[i] = frow l[i] := by
  have e : (rowsL l t)[i]? = some (frow l[i]) := by
    unfold rowsL
    rw [List.getElem?_append_left (by simpa using h), List.getElem?_map, List.getElem?_eq_getElem h]
    rfl
  rw [List.getElem?_eq_getElem h'] at e
  exact Option.some.inj e
theorem rowsL_t (l : List Fi) (t : Int) (i : Nat) (h : i = l.length) (h' : i < (rowsL l t).length) : (rowsL l t)[i] = trow t := by
  have e : (rowsL l t)[i]? = some (trow t) := by
    unfold rowsL
    rw [List.getElem?_append_right (by simp; omega), show i - (l.map frow).length = 0 by simp; omega]
    rfl
  rw [List.getElem?_eq_getElem h'] at e
  exact Option.some.inj e
theorem ba_toList (a : ByteArray) : a.toList = a.data.toList := ByteArray.toList_eq a
theorem ba_append (a b : ByteArray) : (a ++ b).toList = a.toList ++ b.toList := by
  rw [ba_toList, ba_toList, ba_toList]
  simp
theorem ltB_kf (a b : ByteArray) : ltB (kf ++ a) (kf ++ b) = ltB a b := by
  unfold ltB
  rw [ba_append, ba_append]
  have e : kf.toList = [102] := by rw [ba_toList]; rfl
  rw [e]
  simp [Op.bytesLess]
theorem kturn_list : kturn.toList = [116, 117, 114, 110] := by rw [ba_toList]; rfl
theorem ltB_ft {a : ByteArray} {r : List UInt8} (h : a.toList = 102 :: r) : ltB a kturn = true := by
  unfold ltB
  rw [h, kturn_list]
  simp [Op.bytesLess]
theorem kf_list (a : ByteArray) : (kf ++ a).toList = 102 :: a.toList := by
  rw [ba_append]
  have e : kf.toList = [102] := by rw [ba_toList]; rfl
  rw [e]
  rfl
theorem ltB_kft (a : ByteArray) : ltB (kf ++ a) kturn = true := ltB_ft (kf_list a)
theorem kf_ne (a : ByteArray) : ¬ kf ++ a = kturn := fun e => by
  have := ltB_kft a
  rw [e, ltB_irrefl] at this
  cases this

/-- The order of two lists that have the same of each key. -/
theorem stb_eq : ∀ {T S : List Ch}, Rises ltC S → T.Pairwise (fun x y => ltC x y = true) → (∀ z, S.filter (eqv ltC z) = T.filter (eqv ltC z)) → S = T
  | [], S, _, _, h => by
    cases S with
    | nil => rfl
    | cons s S =>
      have := h s
      have e : eqv ltC s s = true := by rw [eqvC]; exact sameK_iff.2 rfl
      rw [List.filter_cons, if_pos e] at this
      cases this
  | t :: T, S, hS, hT, h => by
    have self : ∀ x : Ch, eqv ltC x x = true := fun x => by rw [eqvC]; exact sameK_iff.2 rfl
    have mem : ∀ x, x ∈ S ↔ x ∈ t :: T := fun x => by
      have : x ∈ S.filter (eqv ltC x) ↔ x ∈ (t :: T).filter (eqv ltC x) := by rw [h x]
      simpa [List.mem_filter, self] using this
    cases S with
    | nil => exact absurd ((mem t).2 (List.mem_cons_self ..)) (by simp)
    | cons s S =>
      have hp := List.pairwise_cons.1 hT
      have hq := List.pairwise_cons.1 hS
      have est : s = t := by
        rcases List.mem_cons.1 ((mem s).1 (List.mem_cons_self ..)) with e | e
        · exact e
        · have h1 := hp.1 s e
          rcases List.mem_cons.1 ((mem t).2 (List.mem_cons_self ..)) with e2 | e2
          · exact e2.symm
          · have h2 := hq.1 t e2
            rw [h1] at h2
            cases h2
      subst est
      congr 1
      refine stb_eq hq.2 hp.2 (fun z => ?_)
      have := h z
      rw [List.filter_cons, List.filter_cons] at this
      by_cases e : eqv ltC z s = true
      · rw [if_pos e, if_pos e] at this
        exact (List.cons.inj this).2
      · rw [if_neg e, if_neg e] at this
        exact this
theorem Good.frows {l : List Fi} (h : Good l) : (l.map frow).Pairwise (fun x y => ltC x y = true) := by
  rw [List.pairwise_map]
  refine h.pw.imp ?_
  intro a b hab
  show ltB (kf ++ a.n) (kf ++ b.n) = true
  rw [ltB_kf]
  exact hab
theorem Good.rows_rise {l : List Fi} (h : Good l) (t : Int) : (rowsL l t).Pairwise (fun x y => ltC x y = true) := by
  unfold rowsL
  rw [List.pairwise_append]
  refine ⟨h.frows, List.pairwise_singleton .., ?_⟩
  intro a ha b hb
  obtain ⟨f, _, rfl⟩ := List.mem_map.1 ha
  rw [List.mem_singleton.1 hb]
  exact ltB_kft _
theorem sorted_rows {l : List Fi} (h : Good l) (t : Int) {S : List Ch} (hS : Stb ltC (trow t :: l.map frow) S) : S = rowsL l t := by
  refine stb_eq hS.rises (h.rows_rise t) (fun z => ?_)
  rw [hS.same z]
  unfold rowsL
  rw [List.filter_append, List.filter_cons]
  by_cases e : eqv ltC z (trow t) = true
  · rw [if_pos e, List.filter_cons, if_pos e]
    have e1 : (l.map frow).filter (eqv ltC z) = [] := by
      rw [List.filter_eq_nil_iff]
      intro a ha hz
      obtain ⟨f, _, rfl⟩ := List.mem_map.1 ha
      rw [eqvC, sameK_iff] at hz e
      exact kf_ne f.n (hz.trans e.symm)
    rw [e1]
    rfl
  · rw [if_neg e, List.filter_cons, if_neg e]
    simp

/-- These rows are this quilt's. -/
structure Img (rows : List Ch) (l : List Fi) (t : Int) : Prop where
  good : GoodQ l t
  rows : rows = rowsL l t
theorem Img.length {rows : List Ch} {l : List Fi} {t : Int} (h : Img rows l t) : rows.length = l.length + 1 := by rw [h.rows, rowsL_length]
theorem Img.f {rows : List Ch} {l : List Fi} {t : Int} (h : Img rows l t) (i : Nat) (hi : i < rows.length) (hl : i < l.length) : rows[i] = frow l[i] := by
  have := h.rows
  subst this
  exact rowsL_f l t i hl hi
theorem Img.t {rows : List Ch} {l : List Fi} {t : Int} (h : Img rows l t) (i : Nat) (hi : i < rows.length) (hl : ¬ i < l.length) : rows[i] = trow t := by
  have hn := h.length
  have := h.rows
  subst this
  exact rowsL_t l t i (by omega) hi
theorem GoodQ.times {l : List Fi} {t : Int} (h : GoodQ l t) {f : Fi} (hf : f ∈ l) : ∃ k : Nat, f.k = k ∧ 1 ≤ k ∧ k ≤ 9999 := by
  obtain ⟨_, _, h3, h4⟩ := fault_zero (h.files.each f hf)
  exact ⟨f.k.toNat, by omega, by omega, by omega⟩
theorem GoodQ.turn {l : List Fi} {t : Int} (h : GoodQ l t) : ∃ k : Nat, t = k ∧ 1 ≤ k ∧ k ≤ 9999 := ⟨t.toNat, by have := h.low; omega, by have := h.low; omega, by have := h.high; have := h.low; omega⟩
end Go.Proofs.YtihnghnafpgdfabDoor
