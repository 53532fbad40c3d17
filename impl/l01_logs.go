package impl

import (
	"cmp"
	"math"
	"strconv"
	"strings"
)

// Codes of errors.
const (
	OK          = 0
	ErrInvalid  = 1
	ErrRange    = 2
	ErrLimit    = 3
	ErrState    = 4
	ErrSyntax   = 5
	ErrNotFound = 6
	ErrBudget   = 7
	ErrProof    = 8
)

// Limits of logs.
const (
	Layers      = 6
	MaxLogSteps = 300
)

// What the document tells of layers and of mixing.
const (
	mostKilos = 10
	leastHeat = -60
	mostHeat  = 1500
	boilHeat  = 100
	burnHeat  = 250
	mostToMix = 8
)

// Texts of numbers.
const (
	digitCount = 8
	nanBits    = 0x7fc00000
)

// Wood is a log of six layers.
type Wood struct {
	Wet  [6]float32
	Heat [6]float32
	Fuel [6]float32
}

// CodeName returns the name of an error code.
func CodeName(code int64) string {
	switch code {
	case OK:
		return "ok"
	case ErrInvalid:
		return "invalid"
	case ErrRange:
		return "range"
	case ErrLimit:
		return "limit"
	case ErrState:
		return "state"
	case ErrSyntax:
		return "syntax"
	case ErrNotFound:
		return "notfound"
	case ErrBudget:
		return "budget"
	case ErrProof:
		return "proof"
	}
	return ""
}

// numberBits returns the bits of a number, the same ones for each NaN.
func numberBits(a float32) uint32 {
	if a != a {
		return nanBits
	}
	return math.Float32bits(a)
}

// SameNumber reports whether two numbers are the same.
func SameNumber(a, b float32) bool {
	return numberBits(a) == numberBits(b)
}

func isFinite(a float32) bool {
	return a >= -math.MaxFloat32 && a <= math.MaxFloat32
}

// isBetween is false for NaN, as all comparisons with it are.
func isBetween[T cmp.Ordered](a, low, high T) bool {
	return a >= low && a <= high
}

// IsAmount reports whether a number is an amount.
func IsAmount(a float32) bool {
	return isFinite(a) && !math.Signbit(float64(a))
}

// IsShare reports whether a number is a share.
func IsShare(a float32) bool {
	return IsAmount(a) && a <= 1
}

// held leaves -0 as it is, although 0 may be the lower bound.
func held(a, low, high float32) float32 {
	if a < low {
		return low
	}
	if a > high {
		return high
	}
	return a
}

func isKilos(a float32) bool {
	return IsAmount(a) && a <= mostKilos
}

// ValidWood reports whether a log is valid.
func ValidWood(w Wood) bool {
	for i := range Layers {
		if !isKilos(w.Wet[i]) || !isKilos(w.Fuel[i]) || !isBetween(w.Heat[i], leastHeat, mostHeat) {
			return false
		}
	}
	return true
}

// rowBits makes rows comparable as wholes: == of floats would take -0 for 0, and NaN for another number.
func rowBits(row [Layers]float32) [Layers]uint32 {
	var bits [Layers]uint32
	for i, a := range row {
		bits[i] = numberBits(a)
	}
	return bits
}

// SameWood reports whether two logs are the same.
func SameWood(w, v Wood) bool {
	return rowBits(w.Wet) == rowBits(v.Wet) &&
		rowBits(w.Heat) == rowBits(v.Heat) &&
		rowBits(w.Fuel) == rowBits(v.Fuel)
}

// MakeWood returns the log whose layers are all alike.
func MakeWood(wet, heat, fuel float32) (Wood, int64) {
	var w Wood
	for i := range Layers {
		w.Wet[i], w.Heat[i], w.Fuel[i] = wet, heat, fuel
	}
	if !ValidWood(w) {
		return Wood{}, ErrInvalid
	}
	return w, OK
}

// rowSum begins with the first number instead of 0, so that a row of only -0 has the sum -0.
func rowSum(row [Layers]float32) float32 {
	sum := row[0]
	for _, a := range row[1:] {
		sum += a
	}
	return sum
}

// WaterOf returns the water of a log.
func WaterOf(w Wood) (float32, int64) {
	if !ValidWood(w) {
		return 0, ErrInvalid
	}
	return rowSum(w.Wet), OK
}

// FuelOf returns the fuel of a log.
func FuelOf(w Wood) (float32, int64) {
	if !ValidWood(w) {
		return 0, ErrInvalid
	}
	return rowSum(w.Fuel), OK
}

// MeanHeat returns the mean heat of the layers.
func MeanHeat(w Wood) (float32, int64) {
	if !ValidWood(w) {
		return 0, ErrInvalid
	}
	return rowSum(w.Heat) / Layers, OK
}

func massOf(wet, fuel float32) float32 {
	return float32(float32(wet*4)+float32(fuel*2)) + 0.25
}

// heatFlows returns what flows into each layer from outside; the last one, out of the log, stays 0.
func heatFlows(heat [Layers]float32, around, time float32) [Layers + 1]float32 {
	var flows [Layers + 1]float32
	flows[0] = float32(float32(0.5*(around-heat[0])) * time)
	for i := 1; i < Layers; i++ {
		flows[i] = float32(float32(0.25*(heat[i-1]-heat[i])) * time)
	}
	return flows
}

// warmed is WarmStep without its checks; the flow that it returns may not be finite.
func warmed(w Wood, around, time float32) (Wood, float32) {
	flows := heatFlows(w.Heat, around, time)
	for i := range Layers {
		rise := (flows[i] - flows[i+1]) / massOf(w.Wet[i], w.Fuel[i])
		w.Heat[i] = held(w.Heat[i]+rise, leastHeat, mostHeat)
	}
	return w, flows[0]
}

// WarmStep lets heat flow.
func WarmStep(w Wood, around, time float32) (Wood, float32, int64) {
	if !ValidWood(w) {
		return Wood{}, 0, ErrInvalid
	}
	if !isFinite(around) || !IsShare(time) {
		return Wood{}, 0, ErrRange
	}
	after, taken := warmed(w, around, time)
	if !isFinite(taken) {
		return Wood{}, 0, ErrState
	}
	return after, taken, OK
}

// dried is DryStep without its checks.
func dried(w Wood, time float32) (Wood, float32) {
	var steam float32
	for i := range Layers {
		if w.Heat[i] <= boilHeat {
			continue
		}
		mass := massOf(w.Wet[i], w.Fuel[i])
		gone := min(w.Wet[i], float32(float32((w.Heat[i]-boilHeat)*0.002)*time))
		w.Wet[i] -= gone
		w.Heat[i] = max(w.Heat[i]-float32(2000*gone)/mass, boilHeat)
		steam += gone
	}
	return w, steam
}

// DryStep lets water go.
func DryStep(w Wood, time float32) (Wood, float32, int64) {
	if !ValidWood(w) {
		return Wood{}, 0, ErrInvalid
	}
	if !IsShare(time) {
		return Wood{}, 0, ErrRange
	}
	after, steam := dried(w, time)
	return after, steam, OK
}

// isDry tells whether a layer has so little water that it may burn.
func isDry(wet float32) bool {
	return wet < 0.125
}

// burnt is BurnStep without its checks.
func burnt(w Wood, air, time float32) (Wood, float32, float32) {
	var heat, fuel float32
	for i := range Layers {
		if w.Heat[i] < burnHeat || !isDry(w.Wet[i]) {
			continue
		}
		mass := massOf(w.Wet[i], w.Fuel[i])
		gone := min(w.Fuel[i], float32(float32(float32((w.Heat[i]-burnHeat)*0.001)*air)*time))
		w.Fuel[i] -= gone
		w.Heat[i] = min(w.Heat[i]+float32(2000*gone)/mass, mostHeat)
		heat += float32(5000 * gone)
		fuel += gone
	}
	return w, heat, fuel
}

// BurnStep lets fuel burn.
func BurnStep(w Wood, air, time float32) (Wood, float32, float32, int64) {
	if !ValidWood(w) {
		return Wood{}, 0, 0, ErrInvalid
	}
	if !IsShare(time) || !IsShare(air) {
		return Wood{}, 0, 0, ErrRange
	}
	after, heat, fuel := burnt(w, air, time)
	return after, heat, fuel, OK
}

// checkStep returns the error of the arguments of a LogStep; what heat flows is known only in the step.
func checkStep(w Wood, around, air, time float32) int64 {
	if !ValidWood(w) {
		return ErrInvalid
	}
	if !isFinite(around) || !IsShare(time) || !IsShare(air) {
		return ErrRange
	}
	return OK
}

// checkSteps returns the error of the arguments of several LogSteps.
func checkSteps(w Wood, around, air, time float32, steps int64) int64 {
	code := checkStep(w, around, air, time)
	if code == OK && (steps < 0 || steps > MaxLogSteps) {
		return ErrRange
	}
	return code
}

// stepped is LogStep without the checks of its arguments.
func stepped(w Wood, around, air, time float32) (Wood, float32, float32, float32, int64) {
	warm, taken := warmed(w, around, time)
	if !isFinite(taken) {
		return Wood{}, 0, 0, 0, ErrState
	}
	dry, steam := dried(warm, time)
	after, heat, fuel := burnt(dry, air, time)
	return after, heat - taken, steam, fuel, OK
}

// LogStep does all three.
func LogStep(w Wood, around, air, time float32) (Wood, float32, float32, float32, int64) {
	if code := checkStep(w, around, air, time); code != OK {
		return Wood{}, 0, 0, 0, code
	}
	return stepped(w, around, air, time)
}

// LogSteps does so several times.
func LogSteps(w Wood, around, air, time float32, steps int64) (Wood, float32, float32, int64) {
	if code := checkSteps(w, around, air, time, steps); code != OK {
		return Wood{}, 0, 0, code
	}
	var steam, fuel float32
	for range steps {
		after, _, steamNow, fuelNow, code := stepped(w, around, air, time)
		if code != OK {
			return Wood{}, 0, 0, code
		}
		w = after
		steam += steamNow
		fuel += fuelNow
	}
	return w, steam, fuel, OK
}

// StepsToDry returns how many steps it takes until a log is dry.
func StepsToDry(w Wood, around, time float32, most int64) (int64, int64) {
	if code := checkSteps(w, around, 0, time, most); code != OK {
		return 0, code
	}
	for steps := int64(0); ; steps++ {
		if rowSum(w.Wet) < 1.0/64 {
			return steps, OK
		}
		if steps == most {
			return 0, ErrBudget
		}
		after, _, _, _, code := stepped(w, around, 0, time)
		if code != OK {
			return 0, code
		}
		w = after
	}
}

// BurningLayers returns the layers that would burn.
func BurningLayers(w Wood) ([]int64, int64) {
	if !ValidWood(w) {
		return nil, ErrInvalid
	}
	var burning []int64
layers:
	for i := range Layers {
		switch {
		case w.Heat[i] <= burnHeat, !isDry(w.Wet[i]), w.Fuel[i] == 0:
			continue layers
		}
		burning = append(burning, int64(i))
	}
	return burning, OK
}

// swapLayers lets two layers change places, with all that they have.
func swapLayers(w Wood, i, k int) Wood {
	w.Wet[i], w.Wet[k] = w.Wet[k], w.Wet[i]
	w.Heat[i], w.Heat[k] = w.Heat[k], w.Heat[i]
	w.Fuel[i], w.Fuel[k] = w.Fuel[k], w.Fuel[i]
	return w
}

// SplitWood returns a half of a log.
func SplitWood(w Wood) (Wood, int64) {
	if !ValidWood(w) {
		return Wood{}, ErrInvalid
	}
	for i := range Layers {
		w.Wet[i] /= 2
		w.Fuel[i] /= 2
	}
	for i := 0; i < Layers; i += 2 {
		if k := Layers - 1 - i; w.Wet[i] > w.Wet[k] {
			w = swapLayers(w, i, k)
		}
	}
	return w, OK
}

func addRows(a, b [Layers]float32) [Layers]float32 {
	for i := range a {
		a[i] += b[i]
	}
	return a
}

func divideRow(row [Layers]float32, count float32) [Layers]float32 {
	for i := range row {
		row[i] /= count
	}
	return row
}

// MixWoods returns a log with the means.
func MixWoods(list []Wood) (Wood, int64) {
	for _, w := range list {
		if !ValidWood(w) {
			return Wood{}, ErrInvalid
		}
	}
	if len(list) < 1 || len(list) > mostToMix {
		return Wood{}, ErrRange
	}
	sum := list[0]
	for _, w := range list[1:] {
		sum = Wood{addRows(sum.Wet, w.Wet), addRows(sum.Heat, w.Heat), addRows(sum.Fuel, w.Fuel)}
	}
	count := float32(len(list))
	return Wood{divideRow(sum.Wet, count), divideRow(sum.Heat, count), divideRow(sum.Fuel, count)}, OK
}

// bitsText returns the hexadecimal digits of 32 bits.
func bitsText(bits uint32) string {
	digits := strconv.FormatUint(uint64(bits), 16)
	return strings.Repeat("0", digitCount-len(digits)) + digits
}

// NumberText returns the text of a number.
func NumberText(a float32) string {
	return bitsText(numberBits(a))
}

// ReadNumber returns the number with a text.
func ReadNumber(text string) (float32, int64) {
	if len(text) != digitCount {
		return 0, ErrSyntax
	}
	bits, err := strconv.ParseUint(text, 16, 32)
	if err != nil {
		return 0, ErrSyntax
	}
	a := math.Float32frombits(uint32(bits))
	// Capital letters and other NaN are parsed, but are not the text of what they give.
	if NumberText(a) != text {
		return 0, ErrSyntax
	}
	return a, OK
}

// WoodText returns the text of a log.
func WoodText(w Wood) string {
	if !ValidWood(w) {
		return ""
	}
	words := []string{"log"}
	for i := range Layers {
		words = append(words, NumberText(w.Wet[i]), NumberText(w.Heat[i]), NumberText(w.Fuel[i]))
	}
	return strings.Join(words, " ")
}

// ReadWood returns the log with a text.
func ReadWood(text string) (Wood, int64) {
	words := strings.Split(text, " ")
	if len(words) != 1+3*Layers || words[0] != "log" {
		return Wood{}, ErrSyntax
	}
	var numbers [3 * Layers]float32
	for i, word := range words[1:] {
		a, code := ReadNumber(word)
		if code != OK {
			return Wood{}, ErrSyntax
		}
		numbers[i] = a
	}
	var w Wood
	for i := range Layers {
		w.Wet[i], w.Heat[i], w.Fuel[i] = numbers[3*i], numbers[3*i+1], numbers[3*i+2]
	}
	if !ValidWood(w) {
		return Wood{}, ErrSyntax
	}
	return w, OK
}
