/-
  WHICH ROWS ARE A QUILT's: row by row.
-/
import Derived.Test.YtihnghnafpgdfabDoorImagePure
namespace Go.Proofs.YtihnghnafpgdfabDoor
open Go Go.RowKit Go.BigFrame
set_option linter.unusedVariables false
set_option linter.unusedSimpArgs false

theorem t4_length (n : Nat) : (t4 n).length = 4 := rfl
theorem ba_ext {a b : ByteArray} (h : a.data.toList = b.data.toList) : a = b := toList_inj (by rw [ba_toList, ba_toList]; exact h)
theorem ba_data_append (a b : ByteArray) : (a ++ b).data.toList = a.data.toList ++ b.data.toList := by simp
theorem ba_extract (s : ByteArray) (a b : Nat) : (s.extract a b).data.toList = (s.data.toList.drop a).take (b - a) := by
  rw [ByteArray.data_extract, Array.toList_extract, List.extract_eq_take_drop]
theorem ba_size (s : ByteArray) : s.size = s.data.toList.length := by simp
/-- A file's times, in four digits. -/
def Four (f : Fi) : Prop := ∃ k : Nat, f.k = k ∧ k < 10000
theorem frow_val {f : Fi} {k : Nat} (h : f.k = k) (hk : k < 10000) : (frow f).val.data.toList = t4 k ++ f.t.data.toList := by
  unfold frow
  rw [ba_data_append, h, toldL_t4 hk]
theorem trow_val {t : Int} {k : Nat} (h : t = k) (hk : k < 10000) : (trow t).val.data.toList = t4 k := by
  unfold trow
  rw [h, toldL_t4 hk]
theorem t4_inj {a b : Nat} (ha : a < 10000) (hb : b < 10000) (h : t4 a = t4 b) : a = b := by
  have h1 := atoi_t4 ha
  rw [h, atoi_t4 hb] at h1
  simp only [Option.some.injEq] at h1
  omega
theorem frow_inj {f g : Fi} (hf : Four f) (hg : Four g) (h : frow f = frow g) : f = g := by
  obtain ⟨a, ha, ha2⟩ := hf
  obtain ⟨b, hb, hb2⟩ := hg
  have hv := frow_val ha ha2
  rw [h, frow_val hb hb2] at hv
  obtain ⟨e1, e2⟩ := List.append_inj hv rfl
  have hk : (frow f).key.data.toList = (frow g).key.data.toList := by rw [h]
  unfold frow at hk
  simp only [ba_data_append] at hk
  have e3 := List.append_cancel_left hk
  exact Fi.ext' (ba_ext e3) (ba_ext e2.symm) (by rw [ha, hb, t4_inj hb2 ha2 e1])
theorem frow_ne_trow (f : Fi) (t : Int) : ¬ frow f = trow t := fun e => kf_ne f.n (congrArg Ch.key e)
theorem frows_inj : ∀ {l m : List Fi}, (∀ f ∈ l, Four f) → (∀ f ∈ m, Four f) → l.map frow = m.map frow → l = m
  | [], [], _, _, _ => rfl
  | [], _ :: _, _, _, h => by cases h
  | _ :: _, [], _, _, h => by cases h
  | f :: l, g :: m, hl, hm, h => by
    simp only [List.map_cons, List.cons.injEq] at h
    rw [frow_inj (hl f (List.mem_cons_self ..)) (hm g (List.mem_cons_self ..)) h.1, frows_inj (fun x hx => hl x (List.mem_cons_of_mem _ hx)) (fun x hx => hm x (List.mem_cons_of_mem _ hx)) h.2]
theorem GoodQ.four {l : List Fi} {t : Int} (h : GoodQ l t) : ∀ f ∈ l, Four f := fun f hf => by
  obtain ⟨k, h1, _, h3⟩ := h.times hf
  exact ⟨k, h1, by omega⟩
theorem rowsL_inj {l m : List Fi} {t s : Int} (hl : ∀ f ∈ l, Four f) (hm : ∀ f ∈ m, Four f) {a b : Nat} (ha : t = a) (hb : s = b) (ha2 : a < 10000) (hb2 : b < 10000) (h : rowsL l t = rowsL m s) : l = m ∧ t = s := by
  unfold rowsL at h
  obtain ⟨h1, h2⟩ := List.append_inj' h rfl
  refine ⟨frows_inj hl hm h1, ?_⟩
  have e : trow t = trow s := by simpa using h2
  have hv := trow_val ha ha2
  rw [e, trow_val hb hb2] at hv
  rw [ha, hb, t4_inj hb2 ha2 hv]
theorem Img.inj {rows : List Ch} {l m : List Fi} {t s : Int} (h1 : Img rows l t) (h2 : Img rows m s) : l = m ∧ t = s := by
  obtain ⟨a, ha, _, ha2⟩ := h1.good.turn
  obtain ⟨b, hb, _, hb2⟩ := h2.good.turn
  exact rowsL_inj h1.good.four h2.good.four ha hb (by omega) (by omega) (h1.rows.symm.trans h2.rows)
/-- These rows are no quilt's. -/
def NoImg (rows : List Ch) : Prop := ∀ l t, ¬ Img rows l t

/-! ### A row of a quilt's -/
theorem digB_of (d : Nat) (h : d < 10) : digB (UInt8.ofNat (48 + d)) = true := by
  unfold digB
  rw [ofNat_val d h]
  simp
  omega
theorem t4_dig (n : Nat) (hn : n < 10000) : ∀ k (h : k < (t4 n).length), digB (t4 n)[k] = true := by
  intro k h
  match k, h with
  | 0, _ => exact digB_of _ (by omega)
  | 1, _ => exact digB_of _ (by omega)
  | 2, _ => exact digB_of _ (by omega)
  | 3, _ => exact digB_of _ (by omega)
structure RowOk (c : Ch) : Prop where
  here : c.gone = false
  long : 4 ≤ c.val.size
  key : ¬ c.key.size = 0
  dig : ∀ k (h : k < c.val.size), k < 4 → digB c.val[k] = true
  kind : c.key = kturn ∧ c.val.size = 4 ∨ ∃ r, c.key.data.toList = 102 :: r
theorem ba_get (s : ByteArray) (k : Nat) (h : k < s.size) : s[k] = s.data.toList[k]'(by simpa using h) := rfl
theorem val_dig {v : ByteArray} {n : Nat} {r : List UInt8} (hn : n < 10000) (h : v.data.toList = t4 n ++ r) : 4 ≤ v.size ∧ ∀ k (h : k < v.size), k < 4 → digB v[k] = true := by
  refine ⟨by rw [ba_size, h, List.length_append, t4_length]; omega, fun k hk h4 => ?_⟩
  rw [ba_get]
  simp only [h]
  rw [List.getElem_append_left (by rw [t4_length]; exact h4)]
  exact t4_dig n hn k _
theorem frow_ok {f : Fi} (h : Four f) : RowOk (frow f) := by
  obtain ⟨k, h1, h2⟩ := h
  obtain ⟨a, b⟩ := val_dig h2 (frow_val h1 h2)
  refine ⟨rfl, a, ?_, b, .inr ⟨f.n.data.toList, ?_⟩⟩
  · rw [ba_size]
    unfold frow
    simp only [ba_data_append]
    simp [kf]
  · unfold frow
    simp only [ba_data_append]
    rfl
theorem trow_ok {t : Int} {k : Nat} (h1 : t = k) (h2 : k < 10000) : RowOk (trow t) := by
  have hv := trow_val h1 h2
  obtain ⟨a, b⟩ := val_dig (r := []) h2 (by rw [List.append_nil]; exact hv)
  refine ⟨rfl, a, (show ¬ kturn.size = 0 by decide), b, .inl ⟨rfl, ?_⟩⟩
  rw [ba_size, hv, t4_length]
theorem Img.ok {rows : List Ch} {l : List Fi} {t : Int} (h : Img rows l t) (i : Nat) (hi : i < rows.length) : RowOk rows[i] := by
  by_cases hl : i < l.length
  · rw [h.f i hi hl]
    exact frow_ok (h.good.four _ (List.getElem_mem hl))
  · rw [h.t i hi hl]
    obtain ⟨k, h1, _, h3⟩ := h.good.turn
    exact trow_ok h1 (by omega)
theorem Img.rise {rows : List Ch} {l : List Fi} {t : Int} (h : Img rows l t) (i : Nat) (h0 : 0 < i) (hi : i < rows.length) : ltB (rows[i - 1]'(by omega)).key rows[i].key = true := by
  have hp := h.good.files.rows_rise t
  rw [← h.rows] at hp
  exact (List.pairwise_iff_getElem.1 hp) (i - 1) i (by omega) hi (by omega)

/-! ### The document's answer, row by row -/
/-- What the first i rows say. -/
structure Qs (rows : List Ch) (i : Nat) (fs : List Fi) (t : Int) : Prop where
  four : ∀ f ∈ fs, Four f
  rows : rows.take i = fs.map frow ∧ t = 0 ∨ ∃ n : Nat, n < 10000 ∧ t = n ∧ rows.take i = fs.map frow ++ [trow n]
theorem Qs.nil (rows : List Ch) : Qs rows 0 [] 0 := ⟨fun f h => absurd h (by simp), .inl ⟨rfl, rfl⟩⟩
theorem Qs.last {rows : List Ch} {i : Nat} {fs : List Fi} {n : Nat} (hi : i ≤ rows.length) (h : rows.take i = fs.map frow ++ [trow n]) : ∃ h0 : 0 < i, (rows[i - 1]'(by omega)).key = kturn := by
  have hlen := congrArg List.length h
  simp only [List.length_take, List.length_append, List.length_map, List.length_singleton] at hlen
  refine ⟨by omega, ?_⟩
  have e : (rows.take i)[i - 1]? = some (trow n) := by
    rw [h, List.getElem?_append_right (by simp; omega)]
    have : i - 1 - (fs.map frow).length = 0 := by simp; omega
    rw [this]
    rfl
  rw [List.getElem?_take_of_lt (by omega), List.getElem?_eq_getElem (by omega)] at e
  rw [Option.some.inj e]
  rfl
def fileOf (c : Ch) : Fi := ⟨c.key.extract 1 c.key.size, c.val.extract 4 c.val.size, (pre c.val.data.toList 4 : Nat)⟩
theorem four_split {v : ByteArray} (h : 4 ≤ v.size) (hd : ∀ k (h : k < v.size), k < 4 → digB v[k] = true) : pre v.data.toList 4 < 10000 ∧ v.data.toList = t4 (pre v.data.toList 4) ++ v.data.toList.drop 4 := by
  have hl : 4 ≤ v.data.toList.length := by rw [← ba_size]; exact h
  obtain ⟨b0, b1, b2, b3, r, e⟩ : ∃ b0 b1 b2 b3 r, v.data.toList = b0 :: b1 :: b2 :: b3 :: r := by
    match hv : v.data.toList, hl with
    | b0 :: b1 :: b2 :: b3 :: r, _ => exact ⟨b0, b1, b2, b3, r, rfl⟩
  have g : ∀ k (hk : k < 4) (hk2 : k < v.data.toList.length), digB v.data.toList[k] = true := fun k hk hk2 => by
    have := hd k (by omega) hk
    rw [ba_get] at this
    exact this
  have d0 := g 0 (by decide) (by omega)
  have d1 := g 1 (by decide) (by omega)
  have d2 := g 2 (by decide) (by omega)
  have d3 := g 3 (by decide) (by omega)
  simp only [e, List.getElem_cons_zero, List.getElem_cons_succ] at d0 d1 d2 d3
  rw [e]
  obtain ⟨p1, p2⟩ := pre_t4 (r := r) d0 d1 d2 d3
  exact ⟨p1, by rw [p2]; rfl⟩
theorem frow_fileOf {c : Ch} {r : List UInt8} (hg : c.gone = false) (h : 4 ≤ c.val.size) (hd : ∀ k (h : k < c.val.size), k < 4 → digB c.val[k] = true) (hk : c.key.data.toList = 102 :: r) : Four (fileOf c) ∧ frow (fileOf c) = c := by
  obtain ⟨p1, p2⟩ := four_split h hd
  have hf : Four (fileOf c) := ⟨_, rfl, p1⟩
  refine ⟨hf, ?_⟩
  have hv : (frow (fileOf c)).val = c.val := by
    apply ba_ext
    rw [frow_val (f := fileOf c) rfl p1]
    conv => rhs; rw [p2]
    congr 1
    show (c.val.extract 4 c.val.size).data.toList = _
    rw [ba_extract, List.take_of_length_le (by rw [List.length_drop, ba_size]; exact Nat.le_refl _)]
  have hkey : (frow (fileOf c)).key = c.key := by
    apply ba_ext
    show (kf ++ c.key.extract 1 c.key.size).data.toList = _
    rw [ba_data_append, ba_extract, List.take_of_length_le (by rw [List.length_drop, ba_size]; exact Nat.le_refl _), hk]
    rfl
  cases c
  simp only [frow, Ch.mk.injEq] at hv hkey ⊢
  exact ⟨hkey, hv, hg.symm⟩
theorem trow_of {c : Ch} (hg : c.gone = false) (h : c.val.size = 4) (hd : ∀ k (h : k < c.val.size), k < 4 → digB c.val[k] = true) (hk : c.key = kturn) : pre c.val.data.toList 4 < 10000 ∧ trow ((pre c.val.data.toList 4 : Nat) : Int) = c := by
  obtain ⟨p1, p2⟩ := four_split (by omega) hd
  refine ⟨p1, ?_⟩
  have hv : (trow ((pre c.val.data.toList 4 : Nat) : Int)).val = c.val := by
    apply ba_ext
    rw [trow_val rfl p1]
    conv => rhs; rw [p2]
    rw [List.drop_eq_nil_of_le (by rw [← ba_size]; omega), List.append_nil]
  cases c
  simp only [trow, Ch.mk.injEq] at hv hk hg ⊢
  exact ⟨hk.symm, hv, hg.symm⟩
theorem Qs.file {rows : List Ch} {i : Nat} {fs : List Fi} {t : Int} (h : Qs rows i fs t) (hi : i < rows.length) (hr : ∀ h0 : 0 < i, ltB (rows[i - 1]'(by omega)).key rows[i].key = true) (hg : rows[i].gone = false) (h4 : 4 ≤ rows[i].val.size) (hd : ∀ k (h : k < rows[i].val.size), k < 4 → digB rows[i].val[k] = true) {r : List UInt8} (hk : rows[i].key.data.toList = 102 :: r) :
    Qs rows (i + 1) (fs ++ [fileOf rows[i]]) t := by
  obtain ⟨f1, f2⟩ := frow_fileOf hg h4 hd hk
  refine ⟨fun f hf => ?_, ?_⟩
  · rcases List.mem_append.1 hf with e | e
    · exact h.four f e
    · rw [List.mem_singleton.1 e]; exact f1
  · rcases h.rows with ⟨e, rfl⟩ | ⟨n, hn, rfl, e⟩
    · refine .inl ⟨?_, rfl⟩
      rw [takeSucc rows i hi, e, List.map_append, List.map_singleton, f2]
    · exfalso
      obtain ⟨h0, hl⟩ := Qs.last (by omega) e
      have h1 := hr h0
      rw [hl] at h1
      have h2 := ltB_ft (a := rows[i].key) (r := r) (by rw [ba_toList]; exact hk)
      rw [ltB_asymm h2] at h1
      cases h1
theorem Qs.turn {rows : List Ch} {i : Nat} {fs : List Fi} {t : Int} (h : Qs rows i fs t) (hi : i < rows.length) (hr : ∀ h0 : 0 < i, ltB (rows[i - 1]'(by omega)).key rows[i].key = true) (hg : rows[i].gone = false) (h4 : rows[i].val.size = 4) (hd : ∀ k (h : k < rows[i].val.size), k < 4 → digB rows[i].val[k] = true) (hk : rows[i].key = kturn) :
    Qs rows (i + 1) fs (pre rows[i].val.data.toList 4 : Nat) := by
  obtain ⟨f1, f2⟩ := trow_of hg h4 hd hk
  refine ⟨h.four, ?_⟩
  rcases h.rows with ⟨e, rfl⟩ | ⟨n, hn, rfl, e⟩
  · exact .inr ⟨_, f1, rfl, by rw [takeSucc rows i hi, e, f2]⟩
  · exfalso
    obtain ⟨h0, hl⟩ := Qs.last (by omega) e
    have h1 := hr h0
    rw [hl, hk, ltB_irrefl] at h1
    cases h1
theorem goodQ_of {l : List Fi} {t : Int} (h : quiltF l t = 0) : GoodQ l t := by
  unfold quiltF at h
  by_cases hf : filesF l = 0
  · rw [if_neg (by simp [hf])] at h
    by_cases ht : t < 1 ∨ 9999 < t
    · rw [if_pos ht] at h; exact absurd h (by decide)
    · exact ⟨good_of_zero hf, by omega, by omega⟩
  · rw [if_pos hf] at h
    exact absurd h hf
theorem quiltF_of {l : List Fi} {t : Int} (h : GoodQ l t) : quiltF l t = 0 := by
  unfold quiltF
  have := h.low
  have := h.high
  rw [if_neg (by simp [zero_of_good h.files]), if_neg (by omega)]
theorem Qs.img {rows : List Ch} {fs : List Fi} {t : Int} (h : Qs rows rows.length fs t) (hq : quiltF fs t = 0) : Img rows fs t := by
  have hg := goodQ_of hq
  rcases h.rows with ⟨e, rfl⟩ | ⟨n, hn, rfl, e⟩
  · exact absurd hg.low (by decide)
  · exact ⟨hg, by rw [takeAll _ _ (Nat.le_refl _)] at e; exact e⟩
theorem Qs.noImg {rows : List Ch} {fs : List Fi} {t : Int} (h : Qs rows rows.length fs t) (hq : ¬ quiltF fs t = 0) : NoImg rows := by
  intro l s hi
  rcases h.rows with ⟨e, rfl⟩ | ⟨n, hn, rfl, e⟩
  · rw [takeAll _ _ (Nat.le_refl _)] at e
    have hl := hi.length
    have h1 := hi.t l.length (by omega) (by omega)
    have h2 : rows[l.length]? = some (trow s) := by rw [List.getElem?_eq_getElem (by omega), h1]
    rw [e, List.getElem?_map] at h2
    cases h3 : fs[l.length]? with
    | none => rw [h3] at h2; cases h2
    | some f => rw [h3] at h2; exact frow_ne_trow f s (Option.some.inj h2)
  · rw [takeAll _ _ (Nat.le_refl _)] at e
    obtain ⟨b, hb, _, hb2⟩ := hi.good.turn
    obtain ⟨e1, e2⟩ := rowsL_inj h.four hi.good.four rfl hb hn (by omega) (e.symm.trans hi.rows)
    exact hq (by rw [e1, e2]; exact quiltF_of hi.good)
end Go.Proofs.YtihnghnafpgdfabDoor
