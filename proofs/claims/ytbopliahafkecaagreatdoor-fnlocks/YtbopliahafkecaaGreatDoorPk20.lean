/- Texts in one: Tr7, Tr8, He1, Lk1. -/
import Derived.Test.YtbopliahafkecaaGreatDoorPk19
import Derived.Test.YtbopliahafkecaaGreatDoorPk2
import Derived.Test.YtbopliahafkecaaGreatDoorPk4
import Derived.Test.YtbopliahafkecaaGreatDoorPk5
import Derived.Test.YtbopliahafkecaaGreatDoorPk18
/- Chapter 6, the specification's side: the roots of a beginning and of all over a path. -/
namespace Go.Proofs.YtbopliahafkecaaGreatDoor.Tr
open Go.RowKit Go.Proofs.YtbopliahafkecaaGreatDoor.Mem Go.Proofs.YtbopliahafkecaaGreatDoor.Laws Go.Proofs.YtbopliahafkecaaGreatDoor.Bytes Go.Proofs.YtbopliahafkecaaGreatDoor.Sha
set_option linter.unusedVariables false
set_option linter.unusedSimpArgs false

theorem grown_size (m : Nat) : ∀ {n : Nat} {whole : Bool} {a : ByteArray} {p : List ByteArray}, a.size ≤ 10000000000 → (∀ s ∈ p, s.size ≤ 10000000000) → (grown n m whole a p).1.size ≤ 10000000000 ∧ (grown n m whole a p).2.1.size ≤ 10000000000 := by
  refine natRec (P := fun m => ∀ {n : Nat} {whole : Bool} {a : ByteArray} {p : List ByteArray}, a.size ≤ 10000000000 → (∀ s ∈ p, s.size ≤ 10000000000) → (grown n m whole a p).1.size ≤ 10000000000 ∧ (grown n m whole a p).2.1.size ≤ 10000000000) ?_ m
  intro m ih n whole a p ha hz
  by_cases hn : n = m
  · subst hn
    cases whole
    · by_cases hp : p.length = 1
      · obtain ⟨x, rfl⟩ := List.length_eq_one_iff.1 hp
        rw [grown_one]
        exact ⟨hz x (by simp), hz x (by simp)⟩
      · rw [grown_not a hp]
        exact ⟨Nat.zero_le _, Nat.zero_le _⟩
    · rw [grown_whole]
      exact ⟨ha, ha⟩
  · by_cases h : 2 ≤ m
    · have hk := half_ok h
      have hp := half_pos h
      rcases List.eq_nil_or_concat p with rfl | ⟨q, last, rfl⟩
      · rw [grown_nil hn h]; exact ⟨Nat.zero_le _, Nat.zero_le _⟩
      · rw [List.concat_eq_append] at *
        by_cases hi : n ≤ half m
        · rw [grown_low hn h hi]
          exact ⟨(ih (half m) (by omega) ha (fun s hs => hz s (by simp [hs]))).1, by simp only [nodeH_size]; omega⟩
        · rw [grown_high hn h hi]
          exact ⟨by simp only [nodeH_size]; omega, by simp only [nodeH_size]; omega⟩
    · rw [grown_if, if_neg hn, if_neg h]
      exact ⟨Nat.zero_le _, Nat.zero_le _⟩

end Go.Proofs.YtbopliahafkecaaGreatDoor.Tr

/- Chapter 6, the specification's side: the exported functions. -/
namespace Go.Proofs.YtbopliahafkecaaGreatDoor.Tr
open Go.RowKit Go.Proofs.YtbopliahafkecaaGreatDoor.Mem Go.Proofs.YtbopliahafkecaaGreatDoor.Laws Go.Proofs.YtbopliahafkecaaGreatDoor.Bytes Go.Proofs.YtbopliahafkecaaGreatDoor.Sha
set_option linter.unusedVariables false
set_option linter.unusedSimpArgs false

/-- texts held against each other -/
def eq6 (a b : ByteArray) : Bool := a.toList == b.toList
def rootOf (l : List ByteArray) : ByteArray := if l.length ≤ 200 then root l else ⟨#[]⟩
def inPath (l : List ByteArray) (i : Int) : List ByteArray := if l.length ≤ 200 ∧ 0 ≤ i ∧ i ≤ (l.length : Int) - 1 then path l i.toNat else []
def checkIn (s : ByteArray) (i n : Int) (p : List ByteArray) (r : ByteArray) : Bool :=
  if (1 ≤ n ∧ n ≤ 200) ∧ 0 ≤ i ∧ i ≤ n - 1 then (up (leafH s) i.toNat n.toNat p).2 && eq6 (up (leafH s) i.toNat n.toNat p).1 r else false
def growPath (l : List ByteArray) (n : Int) : List ByteArray := if l.length ≤ 200 ∧ 1 ≤ n ∧ n ≤ (l.length : Int) - 1 then grow l n.toNat true else []
def checkGrow (n m : Int) (a b : ByteArray) (p : List ByteArray) : Bool :=
  if 0 ≤ m ∧ m ≤ 200 then
    (if n = m then eq6 a b && p.isEmpty
     else if 1 ≤ n ∧ n ≤ m - 1 then (grown n.toNat m.toNat true a p).2.2 && eq6 (grown n.toNat m.toNat true a p).1 a && eq6 (grown n.toNat m.toNat true a p).2.1 b else false)
  else false

set_option maxRecDepth 1000000 in
theorem in6 (w : World) (n a b : Int) : Calls Tryz.prog 59 #[.int .i64 n, .int .i64 a, .int .i64 b] w fun e w' => e = .returned (.bool (decide (a ≤ n ∧ n ≤ b))) ∧ w = w' := by
  obtain ⟨t, ht⟩ : ∃ t, decide (a ≤ n ∧ n ≤ b) = t := ⟨_, rfl⟩
  rw [ht]
  by_cases h1 : a ≤ n
  · by_cases h2 : n ≤ b
    · have HD : Hid (t = true) := by show _ = _; rw [← ht]; simp [h1, h2]
      clear ht
      go_enter Tryz.func59, Tryz.ntmps59
      go_wp2
      go_ret
      exact ⟨by rw [HD.out]; rfl, rfl⟩
    · have HD : Hid (t = false) := by show _ = _; rw [← ht]; simp [h2]
      clear ht
      go_enter Tryz.func59, Tryz.ntmps59
      go_wp2
      go_ret
      exact ⟨by rw [HD.out]; rfl, rfl⟩
  · have HD : Hid (t = false) := by show _ = _; rw [← ht]; simp [h1]
    clear ht
    go_enter Tryz.func59, Tryz.ntmps59
    go_wp2
    go_ret
    exact ⟨by rw [HD.out]; rfl, rfl⟩
theorem in6t (w : World) {n a b : Int} (h : a ≤ n ∧ n ≤ b) : Calls Tryz.prog 59 #[.int .i64 n, .int .i64 a, .int .i64 b] w fun e w' => e = .returned (.bool true) ∧ w = w' := by
  have q := in6 w n a b
  rwa [decide_eq_true h] at q
theorem in6f (w : World) {n a b : Int} (h : ¬ (a ≤ n ∧ n ≤ b)) : Calls Tryz.prog 59 #[.int .i64 n, .int .i64 a, .int .i64 b] w fun e w' => e = .returned (.bool false) ∧ w = w' := by
  have q := in6 w n a b
  rwa [decide_eq_false h] at q

end Go.Proofs.YtbopliahafkecaaGreatDoor.Tr

/- Chapter 10: heads as cells; plain facts. -/
namespace Go.Proofs.YtbopliahafkecaaGreatDoor.He
open Go.RowKit Go.Proofs.YtbopliahafkecaaGreatDoor.Mem Go.Proofs.YtbopliahafkecaaGreatDoor.Laws Go.Proofs.YtbopliahafkecaaGreatDoor.Sha Go.Proofs.YtbopliahafkecaaGreatDoor.Tr
set_option linter.unusedVariables false
set_option linter.unusedSimpArgs false

/-- a head: how many texts, and their digest -/
structure Hd where
  n : Int
  r : ByteArray
theorem Hd.ext' {a b : Hd} (h1 : a.n = b.n) (h2 : a.r = b.r) : a = b := by cases a; cases b; simp_all
/-- its cells -/
def Hd.cs (h : Hd) : List Value := [.int .i64 h.n, .string h.r]
def hc (h : Hd) : Array Value := #[.int .i64 h.n, .string h.r]
def hds : List Hd → List Value
  | [] => []
  | h :: r => .int .i64 h.n :: .string h.r :: hds r
theorem hds_len : ∀ l : List Hd, (hds l).length = l.length * 2 := by
  intro l
  induction l with
  | nil => rfl
  | cons q r ih => simp [hds, ih]; omega
theorem hds_app (l m : List Hd) : hds (l ++ m) = hds l ++ hds m := by
  induction l with
  | nil => rfl
  | cons q r ih => simp [hds, ih]
theorem hds_snoc (l : List Hd) (n : Hd) : hds (l ++ [n]) = hds l ++ n.cs := by rw [hds_app]; rfl
theorem hds_one : ∀ l : List Hd, ∀ u ∈ hds l, u.oneCell' = true := by
  intro l
  induction l with
  | nil => intro u hu; cases hu
  | cons q r ih =>
    intro u hu
    simp only [hds, List.mem_cons] at hu
    rcases hu with rfl | rfl | hu
    · rfl
    · rfl
    · exact ih u hu
theorem hds_get : ∀ (l : List Hd) (k : Nat) (q : Hd), l[k]? = some q → (hds l)[k * 2]? = some (.int .i64 q.n) ∧ (hds l)[k * 2 + 1]? = some (.string q.r) := by
  intro l
  induction l with
  | nil => intro k q h; simp at h
  | cons x r ih =>
    intro k q h
    cases k with
    | zero => simp at h; subst h; exact ⟨rfl, rfl⟩
    | succ k =>
      have := ih k q (by simpa using h)
      have e : (k + 1) * 2 = k * 2 + 2 := by omega
      rw [e]
      exact this

/-- v is a slice of the heads l; v owns them -/
def Sh (w : World) (v : Value) (l : List Hd) : Prop := Sn 2 w v l.length (hds l)
def Oh (w : World) (lo hi : Nat) (v : Value) (l : List Hd) : Prop := On 2 w lo hi 25 v l.length (hds l)
theorem Oh.sh {w : World} {lo hi : Nat} {v : Value} {l : List Hd} (h : Oh w lo hi v l) : Sh w v l := On.sn h
theorem Sh.later {w w' : World} {v : Value} {l : List Hd} (h : Sh w v l) (hb : Below w.heap.size w w') : Sh w' v l := Sn.later h hb
theorem Oh.later {w w' : World} {lo hi B : Nat} {v : Value} {l : List Hd} (h : Oh w lo hi v l) (hb : Below B w w') (hB : hi ≤ B) : Oh w' lo hi v l := On.later h hb hB
theorem Sh.form {w : World} {v : Value} {l : List Hd} (h : Sh w v l) : ∃ ao cap, v = .slice ao l.length cap ∧ l.length ≤ cap := by
  obtain ⟨_, ao, cap, rfl, hc, _⟩ := h
  exact ⟨ao, cap, rfl, hc⟩
/-- where a head of a slice lies -/
theorem Sh.at {w : World} {v : Value} {l : List Hd} (h : Sh w v l) {k : Nat} {q : Hd} (hq : l[k]? = some q) : ∃ b off cap, v = .slice (some ⟨b, off, none⟩) l.length cap ∧ l.length ≤ cap ∧
    w.cell? ⟨b, off + k * 2, none⟩ = some (.int .i64 q.n) ∧ w.cell? ⟨b, off + k * 2 + 1, none⟩ = some (.string q.r) := by
  have hk : k < l.length := (List.getElem?_eq_some_iff.1 hq).1
  obtain ⟨b, off, cap, rfl, hc, hr⟩ := Sn.at h hk
  obtain ⟨h0, h1⟩ := hds_get l k q hq
  refine ⟨b, off, cap, rfl, hc, ?_, ?_⟩
  · have := hr 0 (by omega); rw [Nat.add_zero, h0] at this; exact this
  · have := hr 1 (by omega); rw [h1, ← Nat.add_assoc] at this; exact this

theorem sizeH (h : Hd) : (Tryz.prog.info? 25).map (·.size) = some (hc h).size := by
  show _ = some 2
  kernel_rfl

theorem oneH (h : Hd) : (hc h).all (·.oneCell') = true := by simp [hc, Value.oneCell']
/-- the head of nothing -/
def hd0 : Hd := ⟨0, ⟨#[]⟩⟩
/-- what HeadOk, HeadOf, IsSigned, BestHead and Fork answer -/
def okH (h : Hd) : Bool := decide ((0 ≤ h.n ∧ h.n ≤ 200) ∧ h.r.size = 32)
def headOf (l : List ByteArray) : Hd := if l.length ≤ 200 then ⟨l.length, root l⟩ else hd0
def eqH (a b : Hd) : Bool := (a.n == b.n) && (a.r.toList == b.r.toList)
def signed (t : List Hd) (h : Hd) : Bool := t.any (fun x => eqH x h)
def bestF : Hd → List Hd → Hd
  | b, [] => b
  | b, x :: r => if b.n < x.n then bestF x r else bestF b r
def best : List Hd → Hd
  | [] => hd0
  | x :: r => bestF x r
/-- one that forks from h -/
def apart (h x : Hd) : Bool := decide (x.n = h.n) && !eq6 x.r h.r
/-- the first two that fork: seen are ahead of the rest -/
def forkF : List Hd → List Hd → Hd × Hd × Bool
  | _, [] => (hd0, hd0, false)
  | seen, x :: r => match seen.find? (apart x) with
    | some y => (y, x, true)
    | none => forkF (seen ++ [x]) r
def fork (t : List Hd) : Hd × Hd × Bool := forkF [] t

end Go.Proofs.YtbopliahafkecaaGreatDoor.He

/- Chapter 17: a lock's text and back; plain facts. -/
namespace Go.Proofs.YtbopliahafkecaaGreatDoor.Lk
open Go.RowKit Go.Proofs.YtbopliahafkecaaGreatDoor.Mem Go.Proofs.YtbopliahafkecaaGreatDoor.Laws Go.Proofs.YtbopliahafkecaaGreatDoor.Bytes Go.Proofs.YtbopliahafkecaaGreatDoor.Sha Go.Proofs.YtbopliahafkecaaGreatDoor.Ver Go.Proofs.YtbopliahafkecaaGreatDoor.Mod Go.Proofs.YtbopliahafkecaaGreatDoor.Ent Go.Proofs.YtbopliahafkecaaGreatDoor.He
set_option linter.unusedVariables false
set_option linter.unusedSimpArgs false

/-- the first word -/
def word0 : List Int := [105, 110, 100, 101, 120]
/-- the first line, without its end -/
def line0 (h : Hd) : List Int := word0 ++ [32] ++ (digF 6 h.n.toNat ++ [32] ++ hexs (sb h.r))
/-- the lines behind the first, with their ends -/
def rest : List Nd → List Int
  | [] => []
  | n :: r => sb (name5 n) ++ [10] ++ rest r
def lockOk (h : Hd) (l : List Nd) : Bool := okH h && decide (l.length ≤ 60) && rise l
/-- what LockText answers -/
def lock (h : Hd) (l : List Nd) : ByteArray := if lockOk h l = true then Plain.txt (line0 h ++ [10] ++ rest l) else ⟨#[]⟩

/-- what ParseLock answers, of the lines -/
def need1 (t : ByteArray) : Nd := (pname t).1
def none17 : Hd × List Nd × Bool := (hd0, [], false)
def words17 (s : ByteArray) : List ByteArray := splitT 32 ((splitT 10 s).headD ⟨#[]⟩)
def size17 (s : ByteArray) : Int := number (sb ((words17 s).getD 1 ⟨#[]⟩))
def root17 (s : ByteArray) : ByteArray × Bool := unHex ((words17 s).getD 2 ⟨#[]⟩)
def mid17 (s : ByteArray) : List ByteArray := (splitT 10 s).tail.dropLast
def list17 (s : ByteArray) : List Nd := (mid17 s).map need1
def form17 (s : ByteArray) : Bool := decide ((words17 s).length = 3) && decide ((words17 s).head? = some (Plain.txt word0)) && decide ((splitT 10 s).getLast? = some ⟨#[]⟩)
def good17 (s : ByteArray) : Bool := (root17 s).2 && (mid17 s).all (fun t => (pname t).2)
def head17 (s : ByteArray) : Hd := ⟨size17 s, (root17 s).1⟩
def parse (s : ByteArray) : Hd × List Nd × Bool :=
  if form17 s = true ∧ good17 s = true ∧ lock (head17 s) (list17 s) = s then (head17 s, list17 s, true) else none17

theorem rest_byt : ∀ l : List Nd, Byt (rest l) := by
  intro l
  induction l with
  | nil => intro x hx; cases hx
  | cons n r ih => exact ((sb_byt _).app (by intro x hx; simp at hx; omega)).app ih
theorem line0_byt {h : Hd} (hk : okH h = true) : Byt (line0 h) := by
  have h1 : 0 ≤ h.n ∧ h.n ≤ 200 := (of_decide_eq_true hk).1
  unfold line0 word0
  refine (Byt.app (Byt.app ?_ ?_) (((digF_byt 6 _ (by omega)).app ?_).app (hexs_byt _ (sb_byt _)))) <;> (intro x hx; simp at hx; omega)

theorem vt_no10 {a b c : Int} {p : ByteArray} (h : okV a b c p = true) : ∀ x ∈ vt a b c p, x ≠ 10 := by
  unfold okV at h
  simp only [Bool.and_eq_true, Bool.or_eq_true] at h
  obtain ⟨⟨⟨ha, hb⟩, hc⟩, hp⟩ := h
  have hd : ∀ {z : Int}, inM z = true → ∀ x ∈ digF 6 z.toNat, x ≠ 10 := by
    intro z hz x hx
    obtain ⟨m, rfl, hm⟩ := inM_nat hz
    exact digF_no (by simp; omega) 10 (by omega) x hx
  intro x hx hx10
  subst hx10
  unfold vt at hx
  simp only [List.mem_append, List.mem_singleton] at hx
  rcases hx with (((((hx | hx) | hx) | hx) | hx) | hx) | hx
  · omega
  · exact hd ha 10 hx rfl
  · omega
  · exact hd hb 10 hx rfl
  · omega
  · exact hd hc 10 hx rfl
  · split at hx
    · cases hx
    · rename_i hz
      simp only [List.mem_append, List.mem_singleton] at hx
      rcases hx with hx | hx
      · omega
      · rcases hp with hp | hp
        · exact hz (of_decide_eq_true hp)
        · obtain ⟨q, hq, hxq⟩ := in_part 46 (sb p) [] 10 (by omega) (.inl hx)
          unfold Ver.pre at hp
          rw [Bool.and_eq_true, List.all_eq_true] at hp
          have h7 : Ver.part q = true := hp.1 q hq
          unfold Ver.part at h7
          rw [Bool.and_eq_true, Bool.and_eq_true] at h7
          have h8 := List.all_eq_true.1 h7.1.1 10 hxq
          simp [psign] at h8
theorem signs_no10 : ∀ (l : List Int) (i : Nat), signs4 i l = true → ∀ x ∈ l, x ≠ 10 := by
  intro l
  induction l with
  | nil => intro i _ x hx; cases hx
  | cons c r ih =>
    intro i h x hx
    simp only [signs4, Bool.and_eq_true] at h
    rcases List.mem_cons.1 hx with rfl | hx
    · rintro rfl
      have := h.1
      simp [sign4, plain4] at this
    · exact ih _ h.2 x hx
theorem path_no10 {l : List Int} (h : path4 l = true) : ∀ x ∈ l, x ≠ 10 := by
  intro x hx hx64
  subst hx64
  obtain ⟨p, hp, hxp⟩ := in_part 47 l [] 10 (by omega) (.inl hx)
  unfold path4 at h
  simp only [Bool.and_eq_true, List.all_eq_true] at h
  have := h.1.1 p hp
  unfold part4 at this
  rw [Bool.and_eq_true] at this
  exact signs_no10 p 0 this.1 10 hxp rfl
theorem name_no10 {n : Nd} (h : n.ok = true) : ∀ x ∈ sb (name5 n), x ≠ 10 := by
  obtain ⟨h1, h2⟩ := ok_parts h
  intro x hx
  rw [name_sb h] at hx
  simp only [List.mem_append, List.mem_singleton] at hx
  rcases hx with (hx | hx) | hx
  · exact path_no10 h1 x hx
  · omega
  · exact vt_no10 h2 x hx
theorem hexs_no (b : Int) (hb : b < 48) : ∀ l : List Int, Byt l → ∀ x ∈ hexs l, x ≠ b := by
  intro l hl x hx
  unfold hexs at hx
  obtain ⟨c, hc, hx⟩ := List.mem_flatMap.1 hx
  have := hl c hc
  simp only [List.mem_cons, List.mem_nil_iff, or_false] at hx
  unfold hexd at hx
  rcases hx with rfl | rfl <;> split <;> omega
theorem line0_no10 {h : Hd} (hk : okH h = true) : ∀ x ∈ line0 h, x ≠ 10 := by
  have h1 : 0 ≤ h.n ∧ h.n ≤ 200 := (of_decide_eq_true hk).1
  intro x hx
  unfold line0 word0 at hx
  simp only [List.mem_append] at hx
  rcases hx with (hx | hx) | (hx | hx) | hx
  · simp at hx; omega
  · simp at hx; omega
  · exact digF_no (by omega) 10 (by omega) x hx
  · simp at hx; omega
  · exact hexs_no 10 (by omega) _ (sb_byt _) x hx
theorem split_rest : ∀ l : List Nd, (∀ n ∈ l, n.ok = true) → splitL 10 [] (rest l) = l.map (fun n => sb (name5 n)) ++ [[]] := by
  intro l
  induction l with
  | nil => intro _; rfl
  | cons n r ih =>
    intro h
    rw [rest, split_part 10 _ _ (name_no10 (h n (by simp))), ih (fun x hx => h x (by simp [hx]))]
    rfl
theorem split_lock {h : Hd} {l : List Nd} (hk : okH h = true) (hl : ∀ n ∈ l, n.ok = true) : split 10 (line0 h ++ [10] ++ rest l) = line0 h :: (l.map (fun n => sb (name5 n)) ++ [[]]) := by
  unfold split
  rw [split_part 10 _ _ (line0_no10 hk), split_rest l hl]
theorem split_line0 {h : Hd} (hk : okH h = true) : split 32 (line0 h) = [word0, digF 6 h.n.toNat, hexs (sb h.r)] := by
  have h1 : 0 ≤ h.n ∧ h.n ≤ 200 := (of_decide_eq_true hk).1
  unfold split line0
  rw [split_part 32 word0 _ (by intro y hy; unfold word0 at hy; simp at hy; omega), split_part 32 _ _ (digF_no (by omega) 32 (by omega)), split_last 32 _ (hexs_no 32 (by omega) _ (sb_byt _))]

theorem lockOk_parts {h : Hd} {l : List Nd} (hk : lockOk h l = true) : okH h = true ∧ l.length ≤ 60 ∧ rise l = true := by
  unfold lockOk at hk
  simp only [Bool.and_eq_true, decide_eq_true_eq] at hk
  exact ⟨hk.1.1, hk.1.2, hk.2⟩
theorem lock_sb {h : Hd} {l : List Nd} (hk : lockOk h l = true) : sb (lock h l) = line0 h ++ [10] ++ rest l := by
  unfold lock
  rw [if_pos hk, sb_txtv (((line0_byt (lockOk_parts hk).1).app (by intro x hx; simp at hx; omega)).app (rest_byt l))]
theorem splitT_lock {h : Hd} {l : List Nd} (hk : lockOk h l = true) : splitT 10 (lock h l) = Plain.txt (line0 h) :: (l.map name5 ++ [⟨#[]⟩]) := by
  obtain ⟨h1, h2, h3⟩ := lockOk_parts hk
  unfold splitT
  rw [lock_sb hk, split_lock h1 (rise_ok l h3)]
  simp only [List.map_cons, List.map_append, List.map_map, List.map_nil]
  congr 1
  congr 1
  exact List.map_congr_left fun n _ => by simp [txt_sbv]
theorem words_lock {h : Hd} {l : List Nd} (hk : lockOk h l = true) : words17 (lock h l) = [Plain.txt word0, Plain.txt (digF 6 h.n.toNat), Plain.txt (hexs (sb h.r))] := by
  obtain ⟨h1, h2, h3⟩ := lockOk_parts hk
  unfold words17
  rw [splitT_lock hk]
  show splitT 32 (Plain.txt (line0 h)) = _
  unfold splitT
  rw [sb_txtv (line0_byt h1), split_line0 h1]
  rfl
theorem mid_lock {h : Hd} {l : List Nd} (hk : lockOk h l = true) : mid17 (lock h l) = l.map name5 := by
  unfold mid17
  rw [splitT_lock hk]
  simp
theorem size_lock {h : Hd} {l : List Nd} (hk : lockOk h l = true) : size17 (lock h l) = h.n := by
  have h1 : 0 ≤ h.n ∧ h.n ≤ 200 := (of_decide_eq_true (lockOk_parts hk).1).1
  unfold size17
  rw [words_lock hk]
  show number (sb (Plain.txt (digF 6 h.n.toNat))) = h.n
  rw [sb_txtv (digF_byt 6 _ (by omega)), digF_num (by omega)]
  omega
theorem root_lock {h : Hd} {l : List Nd} (hk : lockOk h l = true) : root17 (lock h l) = (h.r, true) := by
  unfold root17
  rw [words_lock hk]
  show unHex (Plain.txt (hexs (sb h.r))) = _
  rw [unHex_back (sb_byt _), txt_sbv]
theorem head_lock {h : Hd} {l : List Nd} (hk : lockOk h l = true) : head17 (lock h l) = h := by
  unfold head17
  rw [size_lock hk, root_lock hk]
theorem list_lock {h : Hd} {l : List Nd} (hk : lockOk h l = true) : list17 (lock h l) = l := by
  unfold list17
  rw [mid_lock hk, List.map_map]
  have hr := rise_ok l (lockOk_parts hk).2.2
  clear hk
  induction l with
  | nil => rfl
  | cons n r ih =>
    rw [List.map_cons, ih (fun x hx => hr x (by simp [hx]))]
    show need1 (name5 n) :: r = n :: r
    unfold need1
    rw [pname_name (hr n (by simp))]
theorem form_lock {h : Hd} {l : List Nd} (hk : lockOk h l = true) : form17 (lock h l) = true := by
  unfold form17
  rw [words_lock hk, splitT_lock hk, ← List.cons_append, List.getLast?_concat]
  simp
theorem good_lock {h : Hd} {l : List Nd} (hk : lockOk h l = true) : good17 (lock h l) = true := by
  unfold good17
  rw [root_lock hk, mid_lock hk]
  have hr := rise_ok l (lockOk_parts hk).2.2
  simp only [Bool.true_and, List.all_map, List.all_eq_true]
  intro n hn
  show (pname (name5 n)).2 = true
  rw [pname_name (hr n hn)]
/-- a lock comes back of its text -/
theorem parse_lock {h : Hd} {l : List Nd} (hk : lockOk h l = true) : parse (lock h l) = (h, l, true) := by
  unfold parse
  rw [form_lock hk, good_lock hk, head_lock hk, list_lock hk, if_pos ⟨rfl, rfl, rfl⟩]
theorem lock_pos {h : Hd} {l : List Nd} (hk : lockOk h l = true) : lock h l ≠ ⟨#[]⟩ := by
  intro he
  have := lock_sb hk
  rw [he] at this
  have := congrArg List.length this
  simp [sb, line0, word0] at this
theorem lock_ok {h : Hd} {l : List Nd} {s : ByteArray} (hs : lock h l = s) (h0 : s ≠ ⟨#[]⟩) : lockOk h l = true := by
  cases hk : lockOk h l
  · unfold lock at hs
    rw [hk] at hs
    exact absurd hs.symm h0
  · rfl
theorem form_nil : form17 ⟨#[]⟩ = false := rfl
/-- what is read has that text -/
theorem parse_iff (s : ByteArray) (h : Hd) (l : List Nd) : parse s = (h, l, true) ↔ lock h l = s ∧ s ≠ ⟨#[]⟩ := by
  constructor
  · intro hp
    unfold parse at hp
    split at hp
    · rename_i hc
      obtain ⟨h1, h2, h3⟩ := hc
      have e1 := congrArg Prod.fst hp
      have e2 := congrArg (fun z => z.2.1) hp
      simp only at e1 e2
      subst e1
      subst e2
      refine ⟨h3, ?_⟩
      rintro rfl
      rw [form_nil] at h1
      cases h1
    · unfold none17 at hp
      simp at hp
  · rintro ⟨rfl, h0⟩
    exact parse_lock (lock_ok rfl h0)
theorem parse_no {s : ByteArray} (h : (parse s).2.2 = false) : parse s = none17 := by
  unfold parse at h ⊢
  split
  · rename_i hc
    rw [if_pos hc] at h
    cases h
  · rfl
theorem parse_none {s : ByteArray} (h : ∀ x l, lock x l ≠ s) : parse s = none17 := by
  apply parse_no
  cases hb : (parse s).2.2
  · rfl
  · exact absurd ((parse_iff s (parse s).1 (parse s).2.1).1 (by rw [← hb])).1 (h _ _)
end Go.Proofs.YtbopliahafkecaaGreatDoor.Lk
