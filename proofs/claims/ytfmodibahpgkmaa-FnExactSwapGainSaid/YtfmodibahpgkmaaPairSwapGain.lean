/- Both sides of SwapGain answer alike. Condition: the Field and the set read as such. -/
import Derived.Test.YtfmodibahpgkmaaGain
