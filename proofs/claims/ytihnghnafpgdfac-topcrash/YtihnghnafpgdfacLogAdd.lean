/-
  A DEED's SECTORS AS TEXTS; WHAT Add MAKES OF A LOG AND ITS DISK.
  A LOG LAYS SECTORS: lay.
  THE SECTORS OF A DEED: deed.
  A DEED IS ADDED: Add.
  DEEDS IN MEMORY, WHEREVER THEY CAME FROM: what logs and disks do lets them be.
-/
import Derived.Test.YtihnghnafpgdfacLogOpen
import Derived.Deep.RegionHeld3
import Derived.Deep.RegionLaw
import Derived.Deep.DeepCutAuto
import Derived.Test.YtihnghnafpgdfacDiskFlush
namespace Go.Proofs.Ytihnghnafpgdfac
set_option linter.unusedVariables false

theorem baL_list (l : List UInt8) : (baL l).data.toList = l := by simp [baL]
theorem padD_baL (l : List UInt8) : padD (baL l) = pad40 l := by
  unfold padD pad40
  rw [baL_list, baL_size]
/-- What is wrong with the first change that is wrong. -/
def faultL : List Ch → Int
  | [] => 0
  | c :: l => if changeF c = 0 then faultL l else changeF c
theorem faultL_all : ∀ {l : List Ch}, faultL l = 0 → ∀ c ∈ l, changeF c = 0
  | [], _, c, hc => by cases hc
  | x :: l, h, c, hc => by
    unfold faultL at h
    split at h
    · rename_i hx
      rcases List.mem_cons.1 hc with rfl | h1
      · exact hx
      · exact faultL_all h c h1
    · rename_i hx; exact absurd h hx
theorem faultL_none : ∀ {l : List Ch}, (∀ c ∈ l, changeF c = 0) → faultL l = 0
  | [], _ => rfl
  | x :: l, h => by
    unfold faultL
    rw [if_pos (h x (by simp))]
    exact faultL_none (fun c hc => h c (List.mem_cons_of_mem _ hc))
theorem faultL_at : ∀ {l : List Ch} {i : Nat} (h : i < l.length), (∀ j (hj : j < i), changeF (l[j]'(by omega)) = 0) → ¬ changeF l[i] = 0 → faultL l = changeF l[i]
  | x :: l, 0, h, _, hx => by
    unfold faultL
    rw [if_neg (by simpa using hx)]
    rfl
  | x :: l, i + 1, h, hb, hx => by
    unfold faultL
    rw [if_pos (by simpa using hb 0 (by omega))]
    simp only [List.length_cons] at h
    simp only [List.getElem_cons_succ] at hx ⊢
    exact faultL_at (by omega) (fun j hj => by simpa using hb (j + 1) (by omega)) hx
/-- The texts of a deed's sectors. -/
def deedT (first : Nat) : Nat → List Ch → Nat → List ByteArray
  | i, [], n => [baL (secL 99 (first + i) (leB 4 n))]
  | i, c :: l, n => baL (secL 111 (first + i) (bytesC c)) :: deedT first (i + 1) l n
def deedO (first i : Nat) (l : List Ch) : List ByteArray := match l with
  | [] => []
  | c :: l => baL (secL 111 (first + i) (bytesC c)) :: deedO first (i + 1) l
theorem deedT_cut (first : Nat) : ∀ (l : List Ch) (i n : Nat), deedT first i l n = deedO first i l ++ [baL (secL 99 (first + (i + l.length)) (leB 4 n))]
  | [], i, n => rfl
  | c :: l, i, n => by
    simp only [deedT, deedO, deedT_cut first l, List.cons_append, List.length_cons]
    rw [show i + 1 + l.length = i + (l.length + 1) by omega]
theorem deedO_length (first : Nat) : ∀ (l : List Ch) (i : Nat), (deedO first i l).length = l.length
  | [], i => rfl
  | c :: l, i => by simp [deedO, deedO_length first l]
theorem deedO_snoc (first : Nat) : ∀ (l : List Ch) (i : Nat) (c : Ch), deedO first i (l ++ [c]) = deedO first i l ++ [baL (secL 111 (first + (i + l.length)) (bytesC c))]
  | [], i, c => rfl
  | x :: l, i, c => by
    simp only [List.cons_append, deedO, deedO_snoc first l, List.length_cons]
    rw [show i + 1 + l.length = i + (l.length + 1) by omega]
theorem deedT_length (first : Nat) (l : List Ch) (i n : Nat) : (deedT first i l n).length = l.length + 1 := by
  rw [deedT_cut]; simp [deedO_length]
theorem deedT_pad (first : Nat) : ∀ (l : List Ch) (i n : Nat), (deedT first i l n).map padD = deedS bytesC first i l n
  | [], i, n => by simp [deedT, deedS, padD_baL]
  | c :: l, i, n => by simp [deedT, deedS, padD_baL, deedT_pad first l]
theorem bytesC_len {c : Ch} (h : changeF c = 0) : (bytesC c).length ≤ 26 := by
  obtain ⟨h1, h2, h3, h4⟩ := changeF_good h
  have e1 : c.key.toList.length = c.key.size := by rw [ba_toList, ba_len]
  have e2 : c.val.toList.length = c.val.size := by rw [ba_toList, ba_len]
  simp only [bytesC, List.length_cons, List.length_append, e1, e2]
  omega
theorem deedT_small (first : Nat) : ∀ (l : List Ch) (i n : Nat), (∀ c ∈ l, changeF c = 0) → ∀ s ∈ deedT first i l n, s.size ≤ 40
  | [], i, n, _, s, hs => by
    simp [deedT] at hs
    subst hs
    rw [baL_size, secL_length, leB_length]
    omega
  | c :: l, i, n, h, s, hs => by
    rw [deedT] at hs
    rcases List.mem_cons.1 hs with rfl | h1
    · rw [baL_size, secL_length]
      have := bytesC_len (h c (by simp))
      omega
    · exact deedT_small first l (i + 1) n (fun x hx => h x (List.mem_cons_of_mem _ hx)) s h1
theorem rdC_bytesC {c : Ch} (h : changeF c = 0) : rdC (bytesC c) = some c := by
  obtain ⟨h1, h2, h3, h4⟩ := changeF_good h
  have e1 : c.key.toList.length = c.key.size := by rw [ba_toList, ba_len]
  have e2 : c.val.toList.length = c.val.size := by rw [ba_toList, ba_len]
  have b0 : byteAt (baL (bytesC c)) 0 = (goneB c).toNat := by unfold byteAt; rw [baL_list]; rfl
  have b1 : byteAt (baL (bytesC c)) 1 = c.key.size := by
    unfold byteAt; rw [baL_list]
    show (UInt8.ofNat c.key.size).toNat = _
    simp; omega
  have hz : (baL (bytesC c)).size = 2 + c.key.size + c.val.size := by
    rw [baL_size]; simp only [bytesC, List.length_cons, List.length_append, e1, e2]; omega
  have g0 : (goneB c).toNat ≤ 1 ∧ (((goneB c).toNat : Int) == 1) = c.gone := by
    unfold goneB
    cases c.gone <;> decide
  have hk : (baL (bytesC c)).extract 2 (2 + c.key.size) = c.key := by
    apply ByteArray.ext
    apply Array.toList_inj.1
    rw [extract_list, baL_list]
    show List.take _ (c.key.toList ++ c.val.toList) = _
    rw [show 2 + c.key.size - 2 = c.key.toList.length by omega, List.take_left, ba_toList]
  have hv : (baL (bytesC c)).extract (2 + c.key.size) (2 + c.key.size + c.val.size) = c.val := by
    apply ByteArray.ext
    apply Array.toList_inj.1
    rw [extract_list, baL_list]
    have e : (bytesC c).drop (2 + c.key.size) = c.val.toList := by
      rw [← List.drop_drop]
      show List.drop _ (c.key.toList ++ c.val.toList) = _
      rw [← e1, List.drop_left]
    rw [e, List.take_of_length_le (by omega), ba_toList]
  have hp : partC (baL (bytesC c)) = c := by
    unfold partC
    rw [b0, b1, hz, hk, hv, g0.2]
  have hb : ¬ BadC (baL (bytesC c)) := by
    unfold BadC
    rw [b0, b1, hz]
    omega
  unfold rdC
  rw [readC_good hb (by rw [hp]; exact h), hp]

/-- What Add makes of a log and its disk, and what it answers. -/
def addD (g : Lg) (d : Dk) (c : List Ch) : Dk × Int :=
  if 14 < c.length then (d, 2) else if g.many - g.used < c.length + 1 then (d, 7) else if faultL c ≠ 0 then (d, faultL c)
  else if (layD d (g.start + g.used) (List.replicate (min (c.length + 2) (g.many - g.used)) ⟨#[]⟩)).2 ≠ 0 then layD d (g.start + g.used) (List.replicate (min (c.length + 2) (g.many - g.used)) ⟨#[]⟩)
  else layD (layD d (g.start + g.used) (List.replicate (min (c.length + 2) (g.many - g.used)) ⟨#[]⟩)).1 (g.start + g.used) (deedT g.first g.used c c.length)
def addG (g : Lg) (d : Dk) (c : List Ch) : Lg := if (addD g d c).2 = 0 then { g with used := g.used + c.length + 1 } else g

/-- A disk whose fuse is out: all is laid. -/
theorem layD_free (d : Dk) (a : Nat) (l : List ByteArray) (hup : d.down = false) (hfree : d.left < 0) (hl : a + l.length ≤ d.now.length) (hs : ∀ s ∈ l, s.size ≤ 40) :
    (layD d a l).2 = 0 ∧ (layD d a l).1.now = laidL d.now a (l.map padD) ∧ (layD d a l).1.down = false ∧ (layD d a l).1.left = d.left ∧ (layD d a l).1.wr = [] ∧ Clean (layD d a l).1 := by
  unfold layD
  rcases writesD_any l d a hup hl hs with ⟨k0, km, kl⟩ | ⟨k8, kf, kd, kk, kw⟩
  · rw [if_pos k0]
    rcases stepN_cases _ km.up with ⟨h8, hl0, hst⟩ | ⟨h0, hl0, hnow, hkept, hwr, hbit, hdn, hleft⟩
    · have := kl hfree; omega
    · have e : flushD (writesD d a l).1 = { stepD (writesD d a l).1 with kept := (writesD d a l).1.now, wr := [], bit := 0 } := by unfold flushD; rw [if_pos h0]
      simp only [e]
      refine ⟨h0, by rw [← km.now]; exact hnow, hdn, ?_, trivial, ⟨hnow.symm, rfl, hdn⟩⟩
      show (stepD (writesD d a l).1).left = d.left
      rw [hleft, kl hfree, if_neg (by omega)]
  · omega
/-- What Add comes to, if no fuse is lit. -/
theorem addD_free {g : Lg} {d : Dk} {c : List Ch} {D : List (List Ch)} (hg : LgOk g) (hf : 1 ≤ g.first) (hin : g.start + g.many ≤ d.now.length) (hup : d.down = false) (hfree : d.left < 0) (h14 : ¬ 14 < c.length) (hroom : ¬ g.many - g.used < c.length + 1) (hok : faultL c = 0)
    (hlog : logOf rdC d.now g.start g.many g.first = (D, g.used)) :
    (addD g d c).2 = 0 ∧ (addD g d c).1.down = false ∧ (addD g d c).1.left = d.left ∧ (addD g d c).1.wr = [] ∧ (addD g d c).1.now.length = d.now.length ∧ logOf rdC (addD g d c).1.now g.start g.many g.first = (D ++ [c], g.used + c.length + 1) := by
  have h1 := hg.start
  have h2 := hg.used
  have h3 := hg.first
  unfold addD
  rw [if_neg h14, if_neg hroom, if_neg (by simpa using hok)]
  obtain ⟨m, hm⟩ : ∃ m, m = min (c.length + 2) (g.many - g.used) := ⟨_, rfl⟩
  rw [← hm]
  obtain ⟨k1, k2, k3, k4, k5, k6⟩ := layD_free d (g.start + g.used) (List.replicate m ⟨#[]⟩) hup hfree (by simp; omega) (by intro s hs; rw [List.eq_of_mem_replicate hs]; decide)
  rw [if_neg (by simpa using k1)]
  have hl1 : (layD d (g.start + g.used) (List.replicate m ⟨#[]⟩)).1.now.length = d.now.length := by rw [k2, laidL_length]
  obtain ⟨q1, q2, q3, q4, q5, q6⟩ := layD_free (layD d (g.start + g.used) (List.replicate m ⟨#[]⟩)).1 (g.start + g.used) (deedT g.first g.used c c.length) k3 (by rw [k4]; exact hfree) (by rw [hl1, deedT_length]; omega) (deedT_small _ _ _ _ (faultL_all hok))
  refine ⟨q1, q3, by rw [q4, k4], q5, by rw [q2, laidL_length, hl1], ?_⟩
  rw [q2, k2, deedT_pad, List.map_replicate]
  have e : padD ⟨#[]⟩ = blank := by decide
  rw [e]
  exact log_laid rdC (firstOk hf (by omega)) (by omega) hin hm (by omega) hlog (fun x hx => ⟨rdC_bytesC (faultL_all hok x hx), by have := bytesC_len (faultL_all hok x hx); omega⟩)
end Go.Proofs.Ytihnghnafpgdfac
namespace Go.Proofs.Ytihnghnafpgdfac
open Go.RowKit Go.BigFrame
set_option linter.unusedVariables false
set_option linter.unusedSimpArgs false

def dOwn (p : Dp) (k : Nat) : Prop := k = p.B ∨ k = p.gn ∨ k = p.gk ∨ p.wv.ownBlock = some k
theorem Near.touch {p : Dp} {w w' : World} (h : Near p w w') : Touch (dOwn p) w w' := ⟨h.os, h.tape, h.output, h.size, fun k hk hn => h.block k hk (fun e => hn (.inl e)) (fun e => hn (.inr (.inl e))) (fun e => hn (.inr (.inr (.inl e)))) (fun e => hn (.inr (.inr (.inr e))))⟩
theorem Touch.step {p p' : Dp} {a b c : World} (h : Touch (dOwn p) a b) (k : Touch (dOwn p') b c) (hB : p'.B = p.B) (hn : p'.gn = p.gn) (hk : p'.gk = p.gk) (hv : NewTo p a p'.wv) : Touch (dOwn p) a c :=
  ⟨k.os.trans h.os, k.tape.trans h.tape, k.output.trans h.output, Nat.le_trans h.size k.size, fun i hi hno => by
    refine (k.block i (Nat.lt_of_lt_of_le hi h.size) (fun ho => ?_)).trans (h.block i hi hno)
    rcases ho with e | e | e | e
    · exact hno (.inl (by rw [e, hB]))
    · exact hno (.inr (.inl (by rw [e, hn])))
    · exact hno (.inr (.inr (.inl (by rw [e, hk]))))
    · rcases hv i e with e | e
      · exact hno (.inr (.inr (.inr e)))
      · omega⟩
theorem DiskAt.kind {w : World} {p : Dp} {d : Dk} (h : DiskAt w p d) {k : Nat} (hk : dOwn p k) : ∃ C T fr, w.heap[k]? = some (.cells C T fr) ∧ (T = 74 ∨ T = 89 ∨ T = 91) := by
  rcases hk with rfl | rfl | rfl | hk
  · exact ⟨_, _, _, h.blk, .inl rfl⟩
  · exact ⟨_, _, _, h.now, .inr (.inl rfl)⟩
  · exact ⟨_, _, _, h.kept, .inr (.inl rfl)⟩
  · obtain ⟨c, f, e⟩ := Lib.ownsRow_kind h.wr k hk; exact ⟨c, _, f, e, .inr (.inr rfl)⟩
/-- A block of another type is as it was. -/
theorem Touch.other {w w' : World} {p : Dp} {d : Dk} (h : Touch (dOwn p) w w') (hd : DiskAt w p d) {k : Nat} {C : Array Value} {T : TypeId} {fr : Nat × Nat} (hk : w.heap[k]? = some (.cells C T fr)) (hT : T ≠ 74 ∧ T ≠ 89 ∧ T ≠ 91) : w'.heap[k]? = w.heap[k]? :=
  h.block k (Array.getElem?_eq_some_iff.1 hk).1 (fun ho => by
    obtain ⟨C', T', fr', e, hT'⟩ := hd.kind ho
    rw [hk] at e
    simp at e
    rcases hT' with e' | e' | e'
    · exact hT.1 (by rw [e.2.1, e'])
    · exact hT.2.1 (by rw [e.2.1, e'])
    · exact hT.2.2 (by rw [e.2.1, e']))
theorem LogAt.touch {w w' : World} {p : Dp} {d : Dk} {b : Nat} {g : Lg} (h : LogAt w b g) (hd : DiskAt w p d) (ht : Touch (dOwn p) w w') : LogAt w' b g := by
  have := ht.other hd h (by decide)
  unfold LogAt at h ⊢
  rw [this]; exact h
theorem OwnsS.touch {w w' : World} {p : Dp} {d : Dk} {B : Nat} {v : Value} {l : List ByteArray} (h : OwnsS w B v l) (hd : DiskAt w p d) (ht : Touch (dOwn p) w w') : OwnsS w' B v l :=
  ownsRow_far h (fun g hg => by obtain ⟨c, f, e⟩ := Lib.ownsRow_kind h g hg; exact ht.other hd e (by decide))
theorem writesD_step {d : Dk} {a : Nat} {l : List ByteArray} {i : Nat} (hi : i < l.length) : writesD d (a + i) (l.drop i) = if writeN d ((a + i : Nat) : Int) l[i] = 0 then writesD (writeD d ((a + i : Nat) : Int) l[i]) (a + (i + 1)) (l.drop (i + 1)) else (writeD d ((a + i : Nat) : Int) l[i], writeN d ((a + i : Nat) : Int) l[i]) := by
  rw [List.drop_eq_getElem_cons hi, writesD]
  rfl
theorem writeD_len (d : Dk) (k : Int) (s : ByteArray) : (writeD d k s).wr.length ≤ d.wr.length + 1 := by
  unfold writeD
  have h := (stepD_rest d).2.2.1
  split
  · omega
  · split
    · simp
    · rw [h]; omega

/-- As a log lays: how its disk stands. -/
structure LayAt (w w' : World) (b : Nat) (g : Lg) (p : Dp) (u : Value) (D : Dk) (few : Nat) : Prop where
  disk : DiskAt w' { p with wv := u } D
  touch : Touch (dOwn p) w w'
  new : NewTo p w u
  log : LogAt w' b g
  few : D.wr.length ≤ few
theorem wrap_near {z : Int} (h : 0 ≤ z ∧ z ≤ 1000000) : IntKind.i64.wrap z = z := by rw [IntKind.wrap_i64]; omega
theorem wrap_two (a b i : Nat) (h : a + b + i ≤ 1000000) : IntKind.i64.wrap (IntKind.i64.wrap ((a : Int) + (b : Int)) + (i : Int)) = ((a + b + i : Nat) : Int) := by
  rw [wrap_near (z := (a : Int) + (b : Int)) (by omega), wrap_near (by omega)]
  omega
theorem few_lt {a n i : Nat} (h : a + n < 120) (hi : i < n) : a + i < 120 := by omega
theorem DiskAt.drew {w : World} {p : Dp} {d : Dk} (h : DiskAt w p d) : DiskAt w.drew p d := h.far fun k _ => rfl
theorem layWrite {w wr : World} {b : Nat} {g : Lg} {p : Dp} {u : Value} {D d : Dk} {few : Nat} (h : LayAt w wr b g p u D few) (hl : LogAt w b g) (hd : DiskAt w p d) (k : Nat) (s : ByteArray) (hs : s.size ≤ 1000) (hfew : few < 120) :
    Calls Try.prog 59 #[.pointer (some ⟨p.B, 0, none⟩), .int .i64 k, .string s] wr.drew fun e w' => e = .returned (errV (writeN D (k : Int) s)) ∧ ∃ v, LayAt w w' b g p v (writeD D (k : Int) s) (few + 1) := by
  refine (diskWrite_new { p with wv := u } D (k : Int) s wr.drew h.disk.drew (by unfold maxLen; omega) (by have := h.few; omega)).mono ?_
  rintro e w5 ⟨he, u', hd5, hn5, hnew5⟩
  have hT5 : Touch (dOwn { p with wv := u }) wr w5 := ⟨hn5.os, hn5.tape, hn5.output, hn5.size, fun k hk hno => hn5.block k hk (fun e => hno (.inl e)) (fun e => hno (.inr (.inl e))) (fun e => hno (.inr (.inr (.inl e)))) (fun e => hno (.inr (.inr (.inr e))))⟩
  have hT : Touch (dOwn p) w w5 := h.touch.step hT5 rfl rfl rfl h.new
  refine ⟨he, u', hd5, hT, fun k hk => ?_, hl.touch hd hT, ?_⟩
  · rcases hnew5 k hk with e | e
    · exact h.new k e
    · exact .inr (Nat.le_trans h.touch.size e)
  · have := writeD_len D (k : Int) s
    have := h.few
    omega

set_option maxRecDepth 100000 in
set_option maxHeartbeats 4000000 in
theorem logLay_any (b : Nat) (g : Lg) (p : Dp) (d : Dk) (B : Nat) (v : Value) (ss : List ByteArray) (w : World) (hl : LogAt w b g) (hg : LgOk g) (hd : DiskAt w p d) (hB : g.dB = p.B) (hs : OwnsS w B v ss) (hfew : ss.length ≤ 60) (hz : ∀ s ∈ ss, s.size ≤ 1000) (hwr : d.wr.length + ss.length < 120) :
    Calls Try.prog 71 #[.pointer (some ⟨b, 0, none⟩), v] w fun e w' => e = .returned (errV (layD d (g.start + g.used) ss).2) ∧ ∃ u, DiskAt w' { p with wv := u } (layD d (g.start + g.used) ss).1 ∧ Touch (dOwn p) w w' ∧ NewTo p w u := by
  have HL : Hid (LogAt w b g) := hl
  have HD : Hid (DiskAt w p d) := hd
  have HBB : Hid (g.dB = p.B) := hB
  have HS : Hid (OwnsS w B v ss) := hs
  have HZ : Hid (∀ s ∈ ss, s.size ≤ 1000) := hz
  have h60 := hg.start
  have hus := hg.used
  have HWR : Hid (d.wr.length + ss.length < 120) := hwr
  obtain ⟨sa, sc, rfl, -, -, -, -, -⟩ := OwnsS.texts hs
  clear hl hg hd hB hs hz hwr
  go_enter Try.func71, Try.ntmps71
  go_wp2_with fail
  go_loopg [10] (ss.length + 1) (fun kx vi wr => ∃ (i : Nat) (u : Value) (D : Dk), vi = .int .i64 i ∧ i ≤ ss.length ∧ ss.length - i ≤ kx ∧ Hid (writesD d (g.start + g.used) ss = writesD D (g.start + g.used + i) (ss.drop i)) ∧ Hid (LayAt w wr b g p u D (d.wr.length + i)))
  case atStart => exact ⟨0, p.wv, d, rfl, by omega, by omega, (rfl : writesD d (g.start + g.used) ss = writesD d (g.start + g.used + 0) (ss.drop 0)), ⟨HD.out, Touch.refl _ _, (fun k hk => .inl hk), HL.out, Nat.le_refl _⟩⟩
  case round =>
    obtain ⟨i, u, D, rfl, hi, hix, HW, HA⟩ := hrel
    by_cases hlt : i < ss.length
    · have hltz : (i : Int) < (ss.length : Int) := by omega
      obtain ⟨xa, xc, hxv, hstr, -⟩ := OwnsS.texts (HS.out.touch HD.out HA.out.touch)
      injection hxv with e1 e2 e3
      subst e1 e3
      obtain ⟨sb, so, rfl, sc0⟩ := hstr i hlt
      have hsz : ss[i].size ≤ 1000 := HZ.out _ (List.getElem_mem hlt)
      have HST : Hid _ := writesD_step (d := D) (a := g.start + g.used) hlt
      have KWr : Hid _ := layWrite HA.out HL.out HD.out (g.start + g.used + i) ss[i] hsz (few_lt HWR.out hlt)
      have KW : Hid (Calls Try.prog 59 #[.pointer (some ⟨p.B, 0, none⟩), .int .i64 (IntKind.i64.wrap (IntKind.i64.wrap ((g.start : Int) + (g.used : Int)) + (i : Int))), .string ss[i]] wr.drew fun e w' => e = .returned (errV (writeN D ((g.start + g.used + i : Nat) : Int) ss[i])) ∧ ∃ v, LayAt w w' b g p v (writeD D ((g.start + g.used + i : Nat) : Int) ss[i]) (d.wr.length + i + 1)) := by
        have e9 : IntKind.i64.wrap (IntKind.i64.wrap ((g.start : Int) + (g.used : Int)) + (i : Int)) = ((g.start + g.used + i : Nat) : Int) := wrap_two g.start g.used i (by omega)
        show Calls _ _ _ _ _
        rw [e9]
        exact KWr.out
      clear KWr
      have keepH : Hid (∀ W, LogAt W b g → W.cell? ⟨b, 0, none⟩ = some (.pointer (some ⟨p.B, 0, none⟩)) ∧ W.cell? ⟨b, 1, none⟩ = some (.int .i64 g.start) ∧ W.cell? ⟨b, 4, none⟩ = some (.int .i64 g.used)) := fun W h => ⟨by have := h.cells.1; rw [HBB.out] at this; exact this, h.cells.2.1, h.cells.2.2.2.2⟩
      obtain ⟨c0, c1, c4⟩ := keepH.out _ HA.out.log
      have HLD : Hid (LogAt wr.drew b g) := HA.out.log
      generalize writeN D ((g.start + g.used + i : Nat) : Int) ss[i] = m at *
      generalize writeD D ((g.start + g.used + i : Nat) : Int) ss[i] = D' at *
      go_wp2_with fail
      go_region_held3 (fun W => W.cell? ⟨b, 0, none⟩ = some (.pointer (some ⟨p.B, 0, none⟩)) ∧ W.cell? ⟨b, 1, none⟩ = some (.int .i64 g.start) ∧ W.cell? ⟨b, 4, none⟩ = some (.int .i64 g.used))
        (first | exact keepH.out _ HLD.out | exact keepH.out _ HA5.out.log)
        (first
          | (go_at_call 59
             refine Calls.mono KW.out ?_
             rintro en w5 ⟨rfl, u', ha5⟩
             have HA5 : Hid _ := ha5
             clear ha5))
      all_goals
        by_cases hm : m = 0
        · have HW5 : Hid (writesD d (g.start + g.used) ss = writesD D' (g.start + g.used + (i + 1)) (ss.drop (i + 1))) := by
            show _ = _
            rw [HW.out, HST.out, if_pos hm]
          rw [hm, errV_zero rfl]
          go_wp2
          go_roundg (ss.length - (i + 1))
          case measure => omega
          case rel => exact ⟨i + 1, u', D', by go_num, by omega, Nat.le_refl _, HW5, HA5⟩
        · have HW5 : Hid (layD d (g.start + g.used) ss = (D', m)) := by
            show _ = _
            have e : writesD d (g.start + g.used) ss = (D', m) := by rw [HW.out, HST.out, if_neg hm]
            unfold layD
            rw [e, if_neg hm]
          have HEV : Hid (errV m = .iface 75 (.int .i64 m)) := errV_pos hm
          rw [errV_pos hm]
          go_wp2
          go_ret
          rw [HW5.out, HEV.out]
          exact ⟨rfl, u', HA5.out.disk, HA5.out.touch, HA5.out.new⟩
    · have HW5 : Hid (writesD d (g.start + g.used) ss = (D, 0)) := by
        show _ = _
        rw [HW.out, List.drop_eq_nil_of_le (by omega)]
        rfl
      have HLA : Hid (layD d (g.start + g.used) ss = (flushD D, stepN D)) := by
        show _ = _
        unfold layD
        rw [HW5.out, if_pos rfl]
      obtain ⟨c0, c1, c2, c3, c4⟩ := HA.out.log.cells
      rw [HBB.out] at c0
      have KF : Hid _ := diskFlush_any { p with wv := u } D wr HA.out.disk
      clear c1 c2 c3 c4
      go_wp2_with fail
      refine Calls.mono KF.out ?_
      rintro en w5 ⟨rfl, hd5, hn5⟩
      have HT5 : Hid (Touch (dOwn p) w w5) := HA.out.touch.step hn5.touch rfl rfl rfl HA.out.new
      have HD5 : Hid (∃ u', DiskAt w5 { p with wv := u' } (flushD D) ∧ Touch (dOwn p) w w5 ∧ NewTo p w u') := by
        unfold flushP at hd5
        split at hd5
        · exact ⟨_, hd5, HT5.out, fun k hk => by cases hk⟩
        · exact ⟨_, hd5, HT5.out, HA.out.new⟩
      clear hd5 hn5
      go_wp2
      go_ret
      rw [HLA.out]
      exact ⟨rfl, HD5.out⟩
end Go.Proofs.Ytihnghnafpgdfac
namespace Go.Proofs.Ytihnghnafpgdfac
open Go.RowKit Go.BigFrame
set_option linter.unusedVariables false
set_option linter.unusedSimpArgs false

/-- As the sectors of a deed are made. -/
structure DeedMid (w wr : World) (g : Lg) (c : List Ch) (i : Nat) (v : Value) : Prop where
  own : OwnsS wr w.heap.size v (deedO g.first g.used (c.take i))
  good : ∀ j (hj : j < i) (h : j < c.length), changeF c[j] = 0
  below : Below w.heap.size w wr
theorem DeedMid.row {w wr : World} {g : Lg} {c : List Ch} {i : Nat} {v : Value} (h : DeedMid w wr g c i v) (hi : i ≤ c.length) : wr.ownsRow w.heap.size 9 1 v i ((deedO g.first g.used (c.take i)).map Value.string) := by
  have := h.own
  unfold OwnsS at this
  rw [deedO_length, List.length_take, Nat.min_eq_left hi] at this
  exact this
theorem DeedMid.go {w wr wx : World} {g : Lg} {c : List Ch} {i : Nat} {v : Value} (h : DeedMid w wr g c i v) (hb : Below wr.heap.size wr wx) : DeedMid w wx g c i v :=
  ⟨ownsRow_far h.own (fun k hk => hb.block k (h.own.lt k hk).2), h.good, h.below.trans (hb.mono h.below.size)⟩
theorem DeedMid.more {w wr w4 : World} {g : Lg} {c : List Ch} {i : Nat} {v v' : Value} (h : DeedMid w wr g c i v) (hi : i < c.length) (hf : changeF c[i] = 0) (hg : wr.grownBy w4 v.ownBlock)
    (ho : w4.ownsRow w.heap.size 9 1 v' (i + 1) ((deedO g.first g.used (c.take i)).map Value.string ++ [.string (baL (secL 111 (g.first + (g.used + i)) (bytesC c[i])))])) : DeedMid w w4 g c (i + 1) v' := by
  refine ⟨?_, fun j hj hjl => ?_, h.below.grown hg h.below.size (fun k hk => (h.own.lt k hk).1)⟩
  · unfold OwnsS
    rw [List.take_succ_eq_append_getElem hi, deedO_snoc, List.map_append, List.length_append, deedO_length, List.length_take, Nat.min_eq_left (Nat.le_of_lt hi)]
    exact ho
  · by_cases e : j = i
    · subst e; exact hf
    · exact h.good j (by omega) hjl
theorem wrap_one (a i : Nat) (h : a + i ≤ 1000000) : IntKind.i64.wrap ((a : Int) + (i : Int)) = ((a + i : Nat) : Int) := by
  rw [wrap_near (by omega)]; omega
theorem deed_all {w wr w4 : World} {g : Lg} {c : List Ch} {v v' : Value} (h : DeedMid w wr g c c.length v) (hg : wr.grownBy w4 v.ownBlock)
    (ho : w4.ownsRow w.heap.size 9 1 v' (c.length + 1) ((deedO g.first g.used (c.take c.length)).map Value.string ++ [.string (baL (secL 99 (g.first + (g.used + c.length)) (leB 4 c.length)))])) :
    OwnsS w4 w.heap.size v' (deedT g.first g.used c c.length) ∧ Below w.heap.size w w4 := by
  refine ⟨?_, h.below.grown hg h.below.size (fun k hk => (h.own.lt k hk).1)⟩
  unfold OwnsS
  rw [deedT_cut, List.map_append, List.length_append, deedO_length]
  rw [List.take_length] at ho
  exact ho

set_option maxRecDepth 100000 in
set_option maxHeartbeats 4000000 in
theorem logDeed_any (b : Nat) (g : Lg) (a : Option Addr) (cap : Nat) (c : List Ch) (w : World) (hl : LogAt w b g) (hg : LgOk g) (hc : CC w a c) (hfew : c.length ≤ 14) :
    Calls Try.prog 70 #[.pointer (some ⟨b, 0, none⟩), .slice a c.length cap] w fun e w' => Below w.heap.size w w' ∧ ((faultL c ≠ 0 ∧ e = .returned (.tuple #[.slice none 0 0, errV (faultL c)])) ∨ (faultL c = 0 ∧ ∃ v, e = .returned (.tuple #[v, .nilIface]) ∧ OwnsS w' w.heap.size v (deedT g.first g.used c c.length))) := by
  have HL : Hid (LogAt w b g) := hl
  have HC : Hid (CC w a c) := hc
  have hst := hg.start
  have hus := hg.used
  have hfi := hg.first
  obtain ⟨i0, hif, hz0, hz1, hz2⟩ := info_parts Try.infoString
  clear hl hg hc
  go_enter Try.func70, Try.ntmps70
  go_wp2_with fail
  go_loopg [13, 6] (c.length + 1) (fun kx vi v6 wr => ∃ (i : Nat), vi = .int .i64 i ∧ i ≤ c.length ∧ c.length - i ≤ kx ∧ Hid (DeedMid w wr g c i v6))
  case atStart => exact ⟨0, rfl, by omega, by omega, ⟨World.ownsRow_nil _ _ _ _, fun j hj => absurd hj (Nat.not_lt_zero _), Below.refl _ _⟩⟩
  case round =>
    obtain ⟨i, rfl, hi, hix, HM⟩ := hrel
    have HLR : Hid (LogAt wr b g) := HL.out.below HM.out.below
    obtain ⟨va, vc, hv⟩ := row_shape (HM.out.row hi)
    subst hv
    by_cases hlt : i < c.length
    · have hltz : (i : Int) < (c.length : Int) := by omega
      obtain ⟨cb, co, rfl, c0, c1, c2⟩ := (HC.out.below HM.out.below) i hlt
      obtain ⟨x, hx⟩ : ∃ x, x = c[i] := ⟨_, rfl⟩
      rw [← hx] at c0 c1 c2
      have KB : Hid (∀ W, Calls _ _ _ W _) := fun W => rowBytes_any x W
      have HX : Hid (x = c[i]) := hx
      clear hx
      have KB2 : Hid (∀ W, Calls Try.prog 61 #[x.v] W fun e w' => e = .returned (.tuple #[.string (if changeF x = 0 then ⟨(bytesC x).toArray⟩ else ⟨#[]⟩), errV (changeF x)]) ∧ Below W.heap.size W w') := KB.out
      clear KB
      by_cases hf : changeF x = 0
      · have HF : Hid (changeF c[i] = 0) := by show _ = _; rw [← HX.out]; exact hf
        rw [hf, errV_zero rfl, if_pos rfl] at KB2
        have hbl : (bytesC x).length ≤ 26 := bytesC_len hf
        have KS : Hid (∀ W, Below wr.heap.size wr W → Calls Try.prog 92 #[.pointer (some ⟨b, 0, none⟩), .int .i64 ((g.used : Int) + (i : Int)), .string ⟨#[111]⟩, .string ⟨(bytesC x).toArray⟩] W fun e w' => e = .returned (.string (baL (secL 111 (g.first + (g.used + i)) (bytesC x)))) ∧ Below W.heap.size W w') := fun W h => by
          have := logSector_any b g (g.used + i) 111 (bytesC x) W (HLR.out.below h) (by omega) (by omega) (by omega)
          rw [show ((g.used + i : Nat) : Int) = (g.used : Int) + (i : Int) by omega] at this
          exact this
        have HMO : Hid (∀ W w4 v', Below wr.heap.size wr W → W.grownBy w4 (Value.slice va i vc).ownBlock → w4.ownsRow w.heap.size 9 1 v' (i + 1) ((deedO g.first g.used (c.take i)).map Value.string ++ [.string (baL (secL 111 (g.first + (g.used + i)) (bytesC x)))]) → DeedMid w w4 g c (i + 1) v') := fun W w4 v' hb hg ho =>
          (HM.out.go hb).more hlt HF.out hg (by rw [← HX.out]; exact ho)
        have HRO : Hid (∀ W, Below wr.heap.size wr W → W.ownsRow w.heap.size 9 1 (.slice va i vc) i ((deedO g.first g.used (c.take i)).map Value.string)) := fun W hb => (HM.out.go hb).row hi
        have HLO : Hid (w.heap.size ≤ wr.heap.size) := HM.out.below.size
        have hc4 : Hid (∀ W, Below wr.heap.size wr W → W.cell? ⟨b, 4, none⟩ = some (.int .i64 g.used)) := fun W h => (HLR.out.below h).cells.2.2.2.2
        generalize baL (secL 111 (g.first + (g.used + i)) (bytesC x)) = Z at *
        generalize (⟨(bytesC x).toArray⟩ : ByteArray) = Y at *
        have k1 : ∀ o, (wr.alloc o).heap.size = wr.heap.size + 1 := fun o => World.size_alloc _ _
        have KB3 : Hid (∀ o, Calls Try.prog 61 #[x.v] (wr.alloc o) fun e w' => e = .returned (.tuple #[.string Y, .nilIface]) ∧ Below wr.heap.size wr w') := fun o => (KB2.out _).mono fun e w' ⟨he, hb⟩ => ⟨he, ((Below.refl wr.heap.size wr).alloc (Nat.le_refl _) o).trans (hb.mono (by rw [k1]; omega))⟩
        clear KB2 HF hf k1
        go_wp2_with fail
        refine Calls.mono (KB3.out _) ?_
        rintro e w2 ⟨rfl, hb2⟩
        have h4 := hc4.out w2 hb2
        have HB2 : Hid (Below wr.heap.size wr w2) := hb2
        clear hb2
        go_wp2_with fail
        refine Calls.mono (KS.out w2 HB2.out) ?_
        rintro e w3 ⟨rfl, hb3⟩
        have HB3 : Hid (Below wr.heap.size wr w3) := HB2.out.trans (hb3.mono HB2.out.size)
        have HBX : Hid (∀ o, Below wr.heap.size wr (w3.alloc o)) := fun o => HB3.out.alloc HB3.out.size _
        have HLX : Hid (∀ o, w.heap.size ≤ (w3.alloc o).heap.size) := fun o => Nat.le_trans HLO.out (HBX.out o).size
        clear hb3 h4
        have h63 : i + 1 ≤ maxLen := by unfold maxLen; omega
        go_wp2_with (at_builtin; refine wpList_append_own _ rfl _ _ 125 rfl w.heap.size 9 i0 _ 1 16 (by kernel_rfl) hif hz0 hz1 hz2 rfl (by decide) (.slice va i vc) i ((deedO g.first g.used (c.take i)).map Value.string) rfl (HRO.out _ (HBX.out _)) ⟨w3.heap.size, 0, none⟩ 1 1 [.string Z] rfl rfl (cell_one_new _ _ _) (one_one _) h63 (by omega) (HLX.out _) ?_; intro v' w4 hown4 hgrow4 hnil4; obtain ⟨xa, xc, rfl⟩ := row_shape hown4; have HA : Hid _ := HMO.out _ _ _ (HBX.out _) hgrow4 hown4; clear hown4 hgrow4 hnil4)
        go_roundg (c.length - (i + 1))
        case measure => omega
        case rel => exact ⟨i + 1, by go_num, by omega, Nat.le_refl _, HA⟩
      · have HFL : Hid (faultL c = changeF x) := by
          show _ = _
          rw [HX.out]
          exact faultL_at hlt (fun j hj => HM.out.good j hj (by omega)) (by rw [← HX.out]; exact hf)
        have HEV : Hid (errV (changeF x) = .iface 75 (.int .i64 (changeF x))) := errV_pos hf
        rw [errV_pos hf, if_neg hf] at KB2
        have HNZ : Hid (¬ changeF x = 0) := hf
        have HB0 : Hid (Below w.heap.size w wr) := HM.out.below
        clear hf
        generalize changeF x = f at *
        go_wp2_with fail
        refine Calls.mono (KB2.out _) ?_
        rintro e w2 ⟨rfl, hb2⟩
        have HB2 : Hid _ := hb2
        clear hb2
        go_wp2
        go_ret2
        refine ⟨HB0.out.trans (((Below.refl wr.heap.size wr).alloc (Nat.le_refl _) _).trans (HB2.out.mono ((Below.refl wr.heap.size wr).alloc (Nat.le_refl _) _).size) |>.mono HB0.out.size), .inl ⟨by rw [HFL.out]; exact HNZ.out, by rw [HFL.out]; exact congrArg (fun z => Ending.returned (.tuple #[.slice none 0 0, z])) HEV.out.symm⟩⟩
    · have e : i = c.length := by omega
      have HGOOD : Hid (faultL c = 0) := by
        show _ = _
        refine faultL_none (fun y hy => ?_)
        obtain ⟨j, hj, rfl⟩ := List.getElem_of_mem hy
        exact HM.out.good j (by omega) hj
      subst e
      clear hlt
      have KC : Hid (∀ W, Calls Try.prog 93 #[.int .i64 c.length] W fun e w' => e = .returned (.string (baL (leB 4 c.length))) ∧ Below W.heap.size W w') := fun W => logCount_any c.length W (by omega)
      have KS : Hid (∀ W, Below wr.heap.size wr W → Calls Try.prog 92 #[.pointer (some ⟨b, 0, none⟩), .int .i64 (IntKind.i64.wrap ((g.used : Int) + (c.length : Int))), .string ⟨#[99]⟩, .string (baL (leB 4 c.length))] W fun e w' => e = .returned (.string (baL (secL 99 (g.first + (g.used + c.length)) (leB 4 c.length)))) ∧ Below W.heap.size W w') := fun W h => by
        have := logSector_any b g (g.used + c.length) 99 (leB 4 c.length) W (HLR.out.below h) (by omega) (by omega) (by rw [leB_length]; omega)
        rw [wrap_one g.used c.length (by omega)]
        exact this
      have HAL : Hid (∀ W w4 v', Below wr.heap.size wr W → W.grownBy w4 (Value.slice va c.length vc).ownBlock → w4.ownsRow w.heap.size 9 1 v' (c.length + 1) ((deedO g.first g.used (c.take c.length)).map Value.string ++ [.string (baL (secL 99 (g.first + (g.used + c.length)) (leB 4 c.length)))]) → OwnsS w4 w.heap.size v' (deedT g.first g.used c c.length) ∧ Below w.heap.size w w4) := fun W w4 v' hb hg ho =>
        deed_all (HM.out.go hb) hg ho
      have HRO : Hid (∀ W, Below wr.heap.size wr W → W.ownsRow w.heap.size 9 1 (.slice va c.length vc) c.length ((deedO g.first g.used (c.take c.length)).map Value.string)) := fun W hb => (HM.out.go hb).row hi
      have HLO : Hid (w.heap.size ≤ wr.heap.size) := HM.out.below.size
      have hc4 : Hid (∀ W, Below wr.heap.size wr W → W.cell? ⟨b, 4, none⟩ = some (.int .i64 g.used)) := fun W h => (HLR.out.below h).cells.2.2.2.2
      have h4 := hc4.out wr (Below.refl _ _)
      generalize baL (secL 99 (g.first + (g.used + c.length)) (leB 4 c.length)) = Z at *
      generalize baL (leB 4 c.length) = Y at *
      have h63 : c.length + 1 ≤ maxLen := by unfold maxLen; omega
      have hby : (c.length + 1) * 16 ≤ 140737488355328 := by omega
      go_wp2_with fail
      go_region_law
        (first
          | (rw [if_pos (by rfl)]
             refine wp_append_new _ _ 125 rfl w.heap.size 9 i0 _ 1 16 Try.underlying125 hif hz0 hz1 hz2 rfl Nat.one_pos (.slice va c.length vc) c.length ((deedO g.first g.used (c.take c.length)).map Value.string) rfl (HRO.out _ (hbX.out _)) ⟨wb.heap.size, 0, none⟩ 1 1 [.string Z] rfl rfl (cell_one_new _ _ _) (one_one _) h63 hby (hloa.out _) ?_
             intro v' w4 hown4 hgrow4 hnew4
             obtain ⟨xa, xc, rfl⟩ := row_shape hown4
             have HA : Hid _ := HAL.out _ _ _ (hbX.out _) hgrow4 hown4
             clear hown4 hgrow4 hnew4)
          | (go_simp
             go_at_call 93
             refine Calls.mono (KC.out _) ?_
             rintro e wa ⟨rfl, hb⟩
             have hbW : Hid (Below wr.heap.size wr wa) := ⟨hb.os, hb.tape, hb.output, hb.size, hb.block⟩
             have h4a := hc4.out wa hbW.out
             clear hb)
          | (go_simp
             go_at_call 92
             refine Calls.mono (KS.out _ hbW.out) ?_
             rintro e wb ⟨rfl, hb⟩
             have hbV : Hid (Below wr.heap.size wr wb) := hbW.out.trans (hb.mono hbW.out.size)
             have hbX : Hid (∀ o, Below wr.heap.size wr (wb.alloc o)) := fun o => hbV.out.alloc hbV.out.size _
             have hloa : Hid (∀ o, w.heap.size ≤ (wb.alloc o).heap.size) := fun o => Nat.le_trans HLO.out (hbX.out o).size
             clear hb))
      all_goals
        go_wp2
        go_ret2
        exact ⟨HA.out.2, .inr ⟨HGOOD.out, _, rfl, HA.out.1⟩⟩
end Go.Proofs.Ytihnghnafpgdfac
namespace Go.Proofs.Ytihnghnafpgdfac
open Go.RowKit Go.BigFrame
set_option linter.unusedVariables false
set_option linter.unusedSimpArgs false

theorem run_make_texts (n : Nat) (hn : n ≤ 60) (w : World) : (Instr.makeSlice 125 (.int .i64 n) (.int .i64 n)).run Try.prog w = .ok (.slice (some ⟨w.heap.size, 0, none⟩) n n) (w.alloc (.cells (List.replicate n (Value.string ⟨#[]⟩)).toArray 9)) := by
  obtain ⟨i0, hi, hz0, hz1, hz2⟩ := info_parts Try.infoString
  have h := run_make (P := Try.prog) w 125 9 i0 _ (by kernel_rfl) hi hz0 .i64 .i64 n n (by omega) (Int.le_refl _) (by rw [hz2]; omega) (by omega)
  rw [hz1, Int.toNat_natCast, Nat.mul_one] at h
  have e : madeCells (Value.string ⟨#[]⟩).cells n = (List.replicate n (Value.string ⟨#[]⟩)).toArray := by
    apply Array.ext
    · simp [madeCells]
    · intro k h1 h2
      simp only [madeCells, Array.getElem_map, Array.getElem_range, List.getElem_toArray, List.getElem_replicate]
      have : (Value.string ⟨#[]⟩).cells = #[Value.string ⟨#[]⟩] := rfl
      rw [this]
      simp [Nat.mod_one]
  rw [e] at h
  exact h
theorem owns_made (w : World) (B n : Nat) (hB : B ≤ w.heap.size) (hn : n ≤ 60) : OwnsS (w.alloc (.cells (List.replicate n (Value.string ⟨#[]⟩)).toArray 9)) B (.slice (some ⟨w.heap.size, 0, none⟩) n n) (List.replicate n ⟨#[]⟩) := by
  unfold OwnsS
  rw [List.map_replicate, List.length_replicate]
  refine ⟨by simp, .inr ⟨w.heap.size, n, (List.replicate n (Value.string ⟨#[]⟩)).toArray, rfl, hB, heap_alloc_new w _, Nat.le_refl _, by unfold maxLen; omega, by simp, by simp⟩⟩
/-- What holds behind Add. -/
structure AddAt (w w' : World) (b : Nat) (g : Lg) (p : Dp) (u : Value) (D : Dk) : Prop where
  disk : DiskAt w' { p with wv := u } D
  touch : Touch (fun k => dOwn p k ∨ k = b) w w'
  new : NewTo p w u
  log : LogAt w' b g
theorem Touch.wide {S S' : Nat → Prop} {w w' : World} (h : Touch S w w') (hS : ∀ k, S k → S' k) : Touch S' w w' := ⟨h.os, h.tape, h.output, h.size, fun k hk hn => h.block k hk (fun e => hn (hS k e))⟩
theorem DiskAt.lts {w : World} {p : Dp} {d : Dk} (h : DiskAt w p d) {k : Nat} (hk : k = p.B ∨ k = p.gn ∨ k = p.gk ∨ p.wv.ownBlock = some k) : k < w.heap.size := by
  rcases hk with rfl | rfl | rfl | hk
  · exact (Array.getElem?_eq_some_iff.1 h.blk).1
  · exact (Array.getElem?_eq_some_iff.1 h.now).1
  · exact (Array.getElem?_eq_some_iff.1 h.kept).1
  · exact (h.wr.lt k hk).2
theorem DiskAt.below {w w' : World} {p : Dp} {d : Dk} (h : DiskAt w p d) (hb : Below w.heap.size w w') : DiskAt w' p d := h.far fun k hk => hb.block k (h.lts hk)
theorem layD_len (d : Dk) (a : Nat) (l : List ByteArray) (h : (layD d a l).2 = 0) : (layD d a l).1.wr = [] := by
  unfold layD at h ⊢
  split at h
  · rename_i h0
    rw [if_pos h0]
    simp only at h ⊢
    unfold flushD
    rw [if_pos h]
  · rename_i h0; exact absurd h h0

theorem AddAt.go {w W W' : World} {b : Nat} {g : Lg} {p : Dp} {u : Value} {D : Dk} (h : AddAt w W b g p u D) (hb : Below W.heap.size W W') : AddAt w W' b g p u D :=
  ⟨h.disk.below hb, h.touch.trans (Touch.of_below hb), h.new, h.log.below hb⟩
theorem Touch.step2 {p p' : Dp} {S : Nat → Prop} {a b c : World} (h : Touch S a b) (k : Touch (dOwn p') b c) (hS : ∀ k, dOwn p k → S k) (hB : p'.B = p.B) (hn : p'.gn = p.gn) (hk : p'.gk = p.gk) (hv : NewTo p a p'.wv) : Touch S a c :=
  ⟨k.os.trans h.os, k.tape.trans h.tape, k.output.trans h.output, Nat.le_trans h.size k.size, fun i hi hno => by
    refine (k.block i (Nat.lt_of_lt_of_le hi h.size) (fun ho => ?_)).trans (h.block i hi hno)
    rcases ho with e | e | e | e
    · exact hno (hS _ (.inl (by rw [e, hB])))
    · exact hno (hS _ (.inr (.inl (by rw [e, hn]))))
    · exact hno (hS _ (.inr (.inr (.inl (by rw [e, hk])))))
    · rcases hv i e with e | e
      · exact hno (hS _ (.inr (.inr (.inr e))))
      · omega⟩
theorem layAdd {w W : World} {b : Nat} {g : Lg} {p : Dp} {u : Value} {D : Dk} (h : AddAt w W b g p u D) (hg : LgOk g) (hB : g.dB = p.B) (B : Nat) (v : Value) (ss : List ByteArray) (hs : OwnsS W B v ss) (hfew : ss.length ≤ 40) (hz : ∀ s ∈ ss, s.size ≤ 1000) (hwr : D.wr.length ≤ 60) :
    Calls Try.prog 71 #[.pointer (some ⟨b, 0, none⟩), v] W fun e w' => e = .returned (errV (layD D (g.start + g.used) ss).2) ∧ ∃ u', AddAt w w' b g p u' (layD D (g.start + g.used) ss).1 ∧ ∀ B' v' l, OwnsS W B' v' l → OwnsS w' B' v' l := by
  refine (logLay_any b g { p with wv := u } D B v ss W h.log hg h.disk hB hs (by omega) hz (by omega)).mono ?_
  rintro e w' ⟨he, u', hd, ht, hn⟩
  exact ⟨he, u', ⟨hd, h.touch.step2 ht (fun k hk => .inl hk) rfl rfl rfl h.new, fun k hk => by
    rcases hn k hk with e | e
    · exact h.new k e
    · exact .inr (Nat.le_trans h.touch.size e), h.log.touch h.disk ht⟩, fun B' v' l ho => OwnsS.touch ho h.disk ht⟩
theorem AddAt.used {w W : World} {b : Nat} {g : Lg} {p : Dp} {u : Value} {D : Dk} (h : AddAt w W b g p u D) (n : Nat) : AddAt w (W.setCell ⟨b, 4, none⟩ (.int .i64 n)) b { g with used := n } p u D ∧ W.cell? ⟨b, 4, none⟩ = some (.int .i64 g.used) ∧ W.frozen? ⟨b, 4, none⟩ = false := by
  obtain ⟨n1, n2, n3, n4⟩ := h.log.neDisk h.disk
  have hs : ∀ k, k ≠ b → (W.setCell ⟨b, 4, none⟩ (.int .i64 n)).heap[k]? = W.heap[k]? := fun k hk => Below.heap_setCell W ⟨b, 4, none⟩ _ k hk
  refine ⟨⟨h.disk.far fun k hk => hs k ?_, ⟨h.touch.os, h.touch.tape, h.touch.output, ?_, fun k hk hno => ?_⟩, h.new, heap_set (w := W) h.log 4 _⟩, h.log.cells.2.2.2.2, frozen_block h.log 4⟩
  · rcases hk with rfl | rfl | rfl | hk
    · exact Ne.symm n1
    · exact Ne.symm n2
    · exact Ne.symm n3
    · rintro rfl; exact n4 hk
  · have : (W.setCell ⟨b, 4, none⟩ (.int .i64 n)).heap.size = W.heap.size := World.size_setCell _ _ _
    rw [this]; exact h.touch.size
  · rw [hs k (fun e => hno (.inr e))]
    exact h.touch.block k hk hno

set_option maxRecDepth 100000 in
set_option maxHeartbeats 4000000 in
theorem logAdd_any (b : Nat) (g : Lg) (p : Dp) (d : Dk) (a : Option Addr) (cap : Nat) (c : List Ch) (w : World) (hl : LogAt w b g) (hg : LgOk g) (hd : DiskAt w p d) (hB : g.dB = p.B) (hc : CC w a c) (hfew : c.length ≤ 1000) (hwr : d.wr.length ≤ 60) :
    Calls Try.prog 43 #[.pointer (some ⟨b, 0, none⟩), .slice a c.length cap] w fun e w' => e = .returned (errV (addD g d c).2) ∧ ∃ u, AddAt w w' b (addG g d c) p u (addD g d c).1 := by
  have HL : Hid (LogAt w b g) := hl
  have HD : Hid (DiskAt w p d) := hd
  have HBB : Hid (g.dB = p.B) := hB
  have HG : Hid (LgOk g) := hg
  have hst := hg.start
  have hus := hg.used
  have HSAME : Hid (∀ W, Below w.heap.size w W → ∃ u, AddAt w W b g p u d) := fun W h => ⟨p.wv, hd.below h, Touch.of_below h, fun k hk => .inl hk, hl.below h⟩
  by_cases h14 : 14 < c.length
  · have e1 : addD g d c = (d, 2) := by unfold addD; rw [if_pos h14]
    have e2 : addG g d c = g := by unfold addG; rw [e1]; rfl
    have h14z : (14 : Int) < (c.length : Int) := by omega
    have ev : errV (addD g d c).2 = .iface 75 (.int .i64 2) := by rw [e1]; exact errV_pos (show ¬ (2 : Int) = 0 by decide)
    rw [ev, e1, e2]
    clear hl hg hd hB hc ev e1 e2
    go_enter Try.func43, Try.ntmps43
    go_wp2
    go_ret
    exact ⟨rfl, HSAME.out _ (Below.refl _ _)⟩
  · have KR : Hid (∀ W, LogAt W b g → Calls Try.prog 34 #[.pointer (some ⟨b, 0, none⟩)] W fun e w' => e = .returned (.int .i64 ((g.many - g.used : Nat) : Int)) ∧ ∃ n, w' = W.drewN n) := fun W h => logRoom_any b g W h hg
    obtain ⟨room, hroom⟩ : ∃ r, r = g.many - g.used := ⟨_, rfl⟩
    have HRM : Hid (room = g.many - g.used) := hroom
    rw [← hroom] at KR
    have h14z : ¬ (14 : Int) < (c.length : Int) := by omega
    by_cases hfull : room < c.length + 1
    · have e1 : addD g d c = (d, 7) := by unfold addD; rw [if_neg h14, if_pos (by omega)]
      have e2 : addG g d c = g := by unfold addG; rw [e1]; rfl
      have hfz : (room : Int) < (c.length : Int) + 1 := by omega
      have ev : errV (addD g d c).2 = .iface 75 (.int .i64 7) := by rw [e1]; exact errV_pos (show ¬ (7 : Int) = 0 by decide)
      rw [ev, e1, e2]
      clear hl hg hd hB hc hroom ev e1 e2
      go_enter Try.func43, Try.ntmps43
      go_wp2_with fail
      refine Calls.mono (KR.out w HL.out) ?_
      rintro e w1 ⟨rfl, n, rfl⟩
      go_wp2
      go_ret
      exact ⟨rfl, HSAME.out _ (below_drewN (Below.refl _ _) n)⟩
    · have hfz : ¬ (room : Int) < (c.length : Int) + 1 := by omega
      have hrm : room ≤ 60 := by omega
      have KDE : Hid (∀ W, Below w.heap.size w W → Calls _ _ _ W _) := fun W hb => logDeed_any b g a cap c W (hl.below hb) hg (hc.below hb) (by omega)
      by_cases hfl : faultL c = 0
      · obtain ⟨m, hm⟩ : ∃ m, m = min (c.length + 2) room := ⟨_, rfl⟩
        have hm60 : m ≤ 40 := by omega
        have HR : Hid (addD g d c = if (layD d (g.start + g.used) (List.replicate m ⟨#[]⟩)).2 ≠ 0 then layD d (g.start + g.used) (List.replicate m ⟨#[]⟩) else layD (layD d (g.start + g.used) (List.replicate m ⟨#[]⟩)).1 (g.start + g.used) (deedT g.first g.used c c.length)) := by
          show _ = _
          unfold addD
          rw [if_neg h14, if_neg (by omega), if_neg (by simpa using hfl), hm, HRM.out]
        have hdl := deedT_length g.first c g.used c.length
        have hsm := deedT_small g.first c g.used c.length (faultL_all hfl)
        have KDG : Hid (∀ W, Below w.heap.size w W → Calls Try.prog 70 #[.pointer (some ⟨b, 0, none⟩), .slice a c.length cap] W fun e w' => ∃ va, ∃ cap', e = .returned (.tuple #[.slice va (c.length + 1) cap', .nilIface]) ∧ OwnsS w' W.heap.size (.slice va (c.length + 1) cap') (deedT g.first g.used c c.length) ∧ Below w.heap.size w w') := fun W hb => (KDE.out W hb).mono fun e w' ⟨hb2, h⟩ => by
          rcases h with ⟨h0, _⟩ | ⟨_, v, he, ho⟩
          · exact absurd hfl h0
          · obtain ⟨va, vc, hv⟩ := row_shape ho
            rw [hdl] at hv
            subst hv
            exact ⟨va, vc, he, ho, hb.trans (hb2.mono hb.size)⟩
        have HAT : Hid (∀ W, Below w.heap.size w W → AddAt w W b g p p.wv d) := fun W h => ⟨hd.below h, Touch.of_below h, fun k hk => .inl hk, hl.below h⟩
        generalize deedT g.first g.used c c.length = T at *
        have KL1 : Hid (∀ W v, Below w.heap.size w W → OwnsS W w.heap.size v (List.replicate m ⟨#[]⟩) → Calls Try.prog 71 #[.pointer (some ⟨b, 0, none⟩), v] W fun e w' => e = .returned (errV (layD d (g.start + g.used) (List.replicate m ⟨#[]⟩)).2) ∧ ∃ u', AddAt w w' b g p u' (layD d (g.start + g.used) (List.replicate m ⟨#[]⟩)).1 ∧ ∀ B' v' l, OwnsS W B' v' l → OwnsS w' B' v' l) := fun W v hb ho =>
          layAdd (HAT.out W hb) hg hB _ v _ ho (by simpa using hm60) (by intro s hs; rw [List.eq_of_mem_replicate hs]; decide) hwr
        have KL2 : Hid (∀ W u D B v, AddAt w W b g p u D → D.wr = [] → OwnsS W B v T → Calls Try.prog 71 #[.pointer (some ⟨b, 0, none⟩), v] W fun e w' => e = .returned (errV (layD D (g.start + g.used) T).2) ∧ ∃ u', AddAt w w' b g p u' (layD D (g.start + g.used) T).1) := fun W u D B v h hw ho =>
          (layAdd h hg hB _ v _ ho (by rw [hdl]; omega) (fun s hs => by have := hsm s hs; omega) (by rw [hw]; simp)).mono fun e w' ⟨he, u', h, _⟩ => ⟨he, u', h⟩
        have HLEN : Hid _ := layD_len d (g.start + g.used) (List.replicate m ⟨#[]⟩)
        generalize layD d (g.start + g.used) (List.replicate m ⟨#[]⟩) = R1 at *
        obtain ⟨D1, n1⟩ := R1
        simp only at HR KL1 HLEN
        have KM : Hid (∀ W, (Instr.makeSlice 125 (.int .i64 m) (.int .i64 m)).run Try.prog W = .ok (.slice (some ⟨W.heap.size, 0, none⟩) m m) (W.alloc (.cells (List.replicate m (Value.string ⟨#[]⟩)).toArray 9))) := fun W => run_make_texts m (by omega) W
        clear hl hg hd hB hc hroom hfl KDE hdl hsm
        have hmz : (m : Int) = min ((c.length : Int) + 1 + 1) (room : Int) := by omega
        have HMZ : Hid _ := hmz
        clear hmz hm
        go_enter Try.func43, Try.ntmps43
        go_wp2_with fail
        refine Calls.mono (KR.out w HL.out) ?_
        rintro e w1 ⟨rfl, n, rfl⟩
        go_wp2_with fail
        refine Calls.mono (KDG.out _ (below_drewN (Below.refl _ _) n)) ?_
        rintro e w2 ⟨va, vc, rfl, ho2, hb2⟩
        have HO2 : Hid (OwnsS w2 (w.drewN n).heap.size (.slice va (c.length + 1) vc) T) := ho2
        have HB2 : Hid _ := hb2
        clear ho2 hb2
        go_wp2_with fail
        refine Calls.mono (KR.out w2 (HL.out.below HB2.out)) ?_
        rintro e w3 ⟨rfl, n3, rfl⟩
        go_wp2_with fail
        rw [← HMZ.out, KM.out]
        have HB3 : Hid (∀ o, Below w.heap.size w ((w2.drewN n3).alloc o)) := fun o => (below_drewN HB2.out n3).alloc (below_drewN HB2.out n3).size o
        have HO3 : Hid (∀ o, OwnsS ((w2.drewN n3).alloc o) (w.drewN n).heap.size (.slice va (c.length + 1) vc) T) := fun o => ownsRow_far (w := w2) HO2.out (fun k hk => ((below_drewN (Below.refl w2.heap.size w2) n3).alloc (Nat.le_refl _) o).block k (HO2.out.lt k hk).2)
        have HO4 : Hid (OwnsS ((w2.drewN n3).alloc (.cells (List.replicate m (Value.string ⟨#[]⟩)).toArray 9)) w.heap.size (.slice (some ⟨w2.heap.size, 0, none⟩) m m) (List.replicate m ⟨#[]⟩)) := owns_made (w2.drewN n3) w.heap.size m (below_drewN HB2.out n3).size (by omega)
        generalize (List.replicate m (Value.string ⟨#[]⟩)).toArray = Z at *
        clear HMZ KM
        by_cases hn1 : n1 = 0
        · rw [hn1, errV_zero rfl] at KL1
          have HR2 : Hid (addD g d c = layD D1 (g.start + g.used) T) := by show _ = _; rw [HR.out, if_neg (by simpa using hn1)]
          have HW1 : Hid (D1.wr = []) := HLEN.out hn1
          have HG2 : Hid (addG g d c = if (layD D1 (g.start + g.used) T).2 = 0 then { g with used := g.used + c.length + 1 } else g) := by show _ = _; unfold addG; rw [HR2.out]
          clear hn1 HR HLEN
          go_wp2_with fail
          refine Calls.mono (KL1.out _ _ (HB3.out _) HO4.out) ?_
          rintro e w4 ⟨rfl, u4, ha4, hk4⟩
          have HO5 : Hid (OwnsS w4 (w.drewN n).heap.size (.slice va (c.length + 1) vc) T) := hk4 _ _ _ (HO3.out _)
          have HA4 : Hid (AddAt w w4 b g p u4 D1) := ha4
          have KL3 : Hid _ := KL2.out w4 u4 D1 _ _ ha4 HW1.out HO5.out
          clear ha4 hk4 KL1 KL2 HO3 HO4
          generalize layD D1 (g.start + g.used) T = R2 at *
          obtain ⟨D2, n2⟩ := R2
          simp only at HR2 HG2 KL3
          by_cases hn2 : n2 = 0
          · rw [hn2, errV_zero rfl] at KL3
            go_wp2_with fail
            refine Calls.mono KL3.out ?_
            rintro e w5 ⟨rfl, u5, ha5⟩
            obtain ⟨ha6, c5, f5⟩ := ha5.used (g.used + c.length + 1)
            have HA6 : Hid _ := ha6
            have HE6 : Hid (((g.used + c.length + 1 : Nat) : Int) = (g.used : Int) + ((c.length : Int) + 1)) := by show _ = _; omega
            rw [HE6.out] at HA6
            clear ha5 ha6
            go_wp2
            go_ret
            rw [HR2.out, HG2.out, hn2, if_pos rfl]
            exact ⟨congrArg Ending.returned (errV_zero rfl).symm, u5, HA6.out⟩
          · have HEV : Hid (errV n2 = .iface 75 (.int .i64 n2)) := errV_pos hn2
            rw [errV_pos hn2] at KL3
            go_wp2_with fail
            refine Calls.mono KL3.out ?_
            rintro e w5 ⟨rfl, u5, ha5⟩
            have HA6 : Hid _ := ha5
            clear ha5
            go_wp2
            go_ret
            rw [HR2.out, HG2.out, if_neg hn2]
            exact ⟨congrArg Ending.returned HEV.out.symm, u5, HA6.out⟩
        · have HEV : Hid (errV n1 = .iface 75 (.int .i64 n1)) := errV_pos hn1
          have HR2 : Hid (addD g d c = (D1, n1)) := by show _ = _; rw [HR.out, if_pos (by simpa using hn1)]
          have HG2 : Hid (addG g d c = g) := by show _ = _; unfold addG; rw [HR2.out]; simp only; rw [if_neg hn1]
          rw [errV_pos hn1] at KL1
          clear hn1 HR HLEN
          go_wp2_with fail
          refine Calls.mono (KL1.out _ _ (HB3.out _) HO4.out) ?_
          rintro e w4 ⟨rfl, u4, ha4, hk4⟩
          have HA4 : Hid (AddAt w w4 b g p u4 D1) := ha4
          clear ha4 hk4 KL1 KL2 HO3 HO4
          go_wp2
          go_ret
          rw [HR2.out, HG2.out]
          exact ⟨congrArg Ending.returned HEV.out.symm, u4, HA4.out⟩
      · have e1 : addD g d c = (d, faultL c) := by unfold addD; rw [if_neg h14, if_neg (by omega), if_pos hfl]
        have e2 : addG g d c = g := by unfold addG; rw [e1]; simp only; rw [if_neg hfl]
        have HEV : Hid (errV (faultL c) = .iface 75 (.int .i64 (faultL c))) := errV_pos hfl
        rw [e1, e2]
        have KDF : Hid (∀ W, Below w.heap.size w W → Calls Try.prog 70 #[.pointer (some ⟨b, 0, none⟩), .slice a c.length cap] W fun e w' => e = .returned (.tuple #[.slice none 0 0, .iface 75 (.int .i64 (faultL c))]) ∧ Below w.heap.size w w') := fun W hb => (KDE.out W hb).mono fun e w' ⟨hb2, h⟩ => by
          rcases h with ⟨_, he⟩ | ⟨h0, _⟩
          · exact ⟨by rw [← HEV.out]; exact he, hb.trans (hb2.mono hb.size)⟩
          · exact absurd h0 hfl
        clear hl hg hd hB hc hroom e1 e2 hfl KDE
        generalize faultL c = f at *
        go_enter Try.func43, Try.ntmps43
        go_wp2_with fail
        refine Calls.mono (KR.out w HL.out) ?_
        rintro e w1 ⟨rfl, n, rfl⟩
        go_wp2_with fail
        refine Calls.mono (KDF.out _ (below_drewN (Below.refl _ _) n)) ?_
        rintro e w2 ⟨rfl, hb2⟩
        have HB2 : Hid _ := hb2
        clear hb2
        go_wp2
        go_ret
        exact ⟨congrArg Ending.returned HEV.out.symm, HSAME.out _ HB2.out⟩
end Go.Proofs.Ytihnghnafpgdfac
namespace Go.Proofs.Ytihnghnafpgdfac
open Go.RowKit Go.BigFrame
set_option linter.unusedVariables false
set_option linter.unusedSimpArgs false

/-- A block that no disk and no log has. -/
def Safe (lo : Nat) (w : World) (k : Nat) : Prop := k < lo ∨ ∃ C T fr, w.heap[k]? = some (.cells C T fr) ∧ T ≠ 74 ∧ T ≠ 89 ∧ T ≠ 91 ∧ T ≠ 105
structure Calm (lo : Nat) (w w' : World) : Prop where
  os : w'.os = w.os
  tape : w'.tape = w.tape
  output : w'.output = w.output
  size : w.heap.size ≤ w'.heap.size
  block : ∀ k, k < w.heap.size → Safe lo w k → w'.heap[k]? = w.heap[k]?
theorem Safe.go {lo : Nat} {w w' : World} {k : Nat} (h : Safe lo w k) (hk : k < w.heap.size) (hc : Calm lo w w') : Safe lo w' k := by
  rcases h with h | ⟨C, T, fr, e, hT⟩
  · exact .inl h
  · exact .inr ⟨C, T, fr, by rw [hc.block k hk (.inr ⟨C, T, fr, e, hT⟩)]; exact e, hT⟩
theorem Calm.refl (lo : Nat) (w : World) : Calm lo w w := ⟨rfl, rfl, rfl, Nat.le_refl _, fun _ _ _ => rfl⟩
theorem Calm.trans {lo : Nat} {a b c : World} (h : Calm lo a b) (k : Calm lo b c) : Calm lo a c :=
  ⟨k.os.trans h.os, k.tape.trans h.tape, k.output.trans h.output, Nat.le_trans h.size k.size, fun i hi hs => (k.block i (Nat.lt_of_lt_of_le hi h.size) (hs.go hi h)).trans (h.block i hi hs)⟩
theorem Calm.of_below {lo : Nat} {w w' : World} (h : Below w.heap.size w w') : Calm lo w w' := ⟨h.os, h.tape, h.output, h.size, fun k hk _ => h.block k hk⟩
theorem Calm.below {lo : Nat} {w w' : World} (h : Calm lo w w') (hlo : lo ≤ w.heap.size) : Below lo w w' := ⟨h.os, h.tape, h.output, h.size, fun k hk => h.block k (by omega) (.inl hk)⟩
theorem dOwn_safe {lo : Nat} {w : World} {p : Dp} {d : Dk} (hd : DiskAt w p d) (hlo : lo ≤ p.lo) {k : Nat} (h : dOwn p k) : ¬ Safe lo w k := by
  intro hs
  obtain ⟨C, T, fr, e, hT⟩ := hd.kind h
  rcases hs with hs | ⟨C', T', fr', e', hT'⟩
  · rcases h with h | h | h | h
    · have := hd.lo1; omega
    · have := hd.lo2; omega
    · have := hd.lo3; omega
    · have := (hd.wr.lt k h).1; omega
  · rw [e] at e'
    simp at e'
    rcases hT with h1 | h1 | h1
    · exact hT'.1 (by rw [← e'.2.1, h1])
    · exact hT'.2.1 (by rw [← e'.2.1, h1])
    · exact hT'.2.2.1 (by rw [← e'.2.1, h1])
theorem log_safe {lo : Nat} {w : World} {b : Nat} {g : Lg} (hl : LogAt w b g) (hlo : lo ≤ b) : ¬ Safe lo w b := by
  rintro (h | ⟨C, T, fr, e, hT⟩)
  · omega
  · unfold LogAt at hl
    rw [hl] at e
    simp at e
    exact hT.2.2.2 e.2.1.symm
theorem Touch.calm {lo : Nat} {w w' : World} {S : Nat → Prop} (h : Touch S w w') (hS : ∀ k, S k → ¬ Safe lo w k) : Calm lo w w' :=
  ⟨h.os, h.tape, h.output, h.size, fun k hk hs => h.block k hk (fun e => hS k e hs)⟩

/-- A slice of changes, safe. -/
structure PartS (lo : Nat) (w : World) (q : PartC) : Prop where
  cc : CC w q.a q.l
  safe : ∀ x, q.a = some x → q.l ≠ [] → Safe lo w x.block
theorem CC.calm {lo : Nat} {w w' : World} {q : PartC} (h : PartS lo w q) (hc : Calm lo w w') : PartS lo w' q := by
  refine ⟨fun i hi => ?_, fun x hx hne => ?_⟩
  · obtain ⟨b, off, e, h1, h2, h3⟩ := h.cc i hi
    have hlt : b < w.heap.size := World.block_lt_of_cell? _ _ h1
    have hb := hc.block b hlt (h.safe _ e (by intro h0; rw [h0] at hi; simp at hi))
    refine ⟨b, off, e, ?_, ?_, ?_⟩
    · rw [World.cell?_of_block (w := w) (a := ⟨b, _, none⟩) hb]; exact h1
    · rw [World.cell?_of_block (w := w) (a := ⟨b, _, none⟩) hb]; exact h2
    · rw [World.cell?_of_block (w := w) (a := ⟨b, _, none⟩) hb]; exact h3
  · cases hl : q.l with
    | nil => exact absurd hl hne
    | cons c r =>
      obtain ⟨b, off, e, h1, h2, h3⟩ := h.cc 0 (by rw [hl]; simp)
      rw [hx] at e
      injection e with e
      subst e
      exact (h.safe _ hx hne).go (World.block_lt_of_cell? _ _ h1) hc
/-- Deeds: a slice of slices of changes, all safe. -/
structure Deeds (lo : Nat) (w : World) (a : Option Addr) (cap : Nat) (P : List PartC) : Prop where
  nil : a = none → cap = 0
  cell : ∀ i (h : i < P.length), ∃ b off, a = some ⟨b, off, none⟩ ∧ w.cell? ⟨b, off + i, none⟩ = some P[i].v ∧ Safe lo w b
  parts : ∀ q ∈ P, PartS lo w q
  few : ∀ q ∈ P, q.l.length ≤ 1000
theorem Deeds.calm {lo : Nat} {w w' : World} {a : Option Addr} {cap : Nat} {P : List PartC} (h : Deeds lo w a cap P) (hc : Calm lo w w') : Deeds lo w' a cap P := by
  refine ⟨h.nil, fun i hi => ?_, fun q hq => CC.calm (h.parts q hq) hc, h.few⟩
  obtain ⟨b, off, ea, h1, hs⟩ := h.cell i hi
  have hlt : b < w.heap.size := World.block_lt_of_cell? _ _ h1
  exact ⟨b, off, ea, by rw [World.cell?_of_block (w := w) (a := ⟨b, _, none⟩) (hc.block b hlt hs)]; exact h1, hs.go hlt hc⟩
theorem Deeds.empty (lo : Nat) (w : World) : Deeds lo w none 0 [] := ⟨fun _ => rfl, fun i h => absurd h (Nat.not_lt_zero _), (fun q hq => by cases hq), (fun q hq => by cases hq)⟩
theorem safe_of {lo : Nat} {w : World} {k : Nat} {C : Array Value} {T : TypeId} {fr : Nat × Nat} (h : w.heap[k]? = some (.cells C T fr)) (hT : T = 30 ∨ T = 66) : Safe lo w k := by
  refine .inr ⟨C, T, fr, h, ?_⟩
  rcases hT with rfl | rfl <;> decide
theorem addr_add (b off i : Nat) : (⟨b, off, none⟩ : Addr).add i = ⟨b, off + i, none⟩ := by
  by_cases h : i = 0 <;> simp [Addr.add, h]
/-- A row of the log's own. -/
theorem deeds_row {lo B : Nat} {w : World} {a : Option Addr} {cap : Nat} {P : List PartC} (h : w.ownsRow B 30 1 (.slice a P.length cap) P.length (P.map PartC.v)) (hp : ∀ q ∈ P, PartS lo w q) (hf : ∀ q ∈ P, q.l.length ≤ 1000) : Deeds lo w a cap P := by
  refine ⟨fun ha => ?_, fun i hi => ?_, hp, hf⟩
  · subst ha
    rcases h.2 with ⟨e, _⟩ | ⟨g, cap', cur, e, _⟩
    · injection e
    · injection e with e1 e2 e3
      cases e1
  · rcases h.2 with ⟨e, hn⟩ | ⟨g, cap', cur, e, hB, hg, _⟩
    · omega
    · injection e with e1 e2 e3
      subst e1
      refine ⟨g, 0, rfl, ?_, safe_of hg (.inl rfl)⟩
      have := h.cells (g := g) rfl i P[i].v (by simp [hi])
      rw [addr_add, Nat.zero_add] at this
      rw [Nat.zero_add]
      exact this
theorem part_own {lo B : Nat} {w : World} {q : PartC} (h : w.ownsRow B 66 3 q.v q.l.length (flatC q.l)) : PartS lo w q := by
  obtain ⟨a, cap, hv, hcc, _⟩ := OwnsC.files (l := q.l) h
  unfold PartC.v at hv
  injection hv with e1 e2 e3
  refine ⟨by rw [e1]; exact hcc, fun x hx hne => ?_⟩
  rcases h.2 with ⟨e, hn⟩ | ⟨g, cap', cur, e, hB, hg, _⟩
  · exact absurd (List.eq_nil_of_length_eq_zero hn) hne
  · unfold PartC.v at e
    injection e with e1 e2 e3
    rw [hx] at e1
    injection e1 with e1
    subst e1
    exact safe_of hg (.inr rfl)
theorem DS.deeds {w : World} {lo lo' base : Nat} {vo : Value} {a : Option Addr} {cap : Nat} {P : List PartC} {opn : List Ch} (h : DS w lo base (.slice a P.length cap) vo P opn) (hf : ∀ q ∈ P, q.l.length ≤ 1000) : Deeds lo' w a cap P :=
  deeds_row h.row (fun q hq => part_own (h.parts q hq)) hf
end Go.Proofs.Ytihnghnafpgdfac
